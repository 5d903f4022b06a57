/-
  A plan that is tried, walked: begin.
-/
import Derived.Test.YtjpklmighoondaaGreatDoorFieldsQY
import Derived.Test.YtjpklmighoondaaGreatDoorFaMY
namespace Go.Proofs.YtjpklmighoondaaGreatDoor.Fa
open Go.RowKit
section
variable {w0 W W' : World} {Bt : Nat} {K : St.StK} {v : Value} {bs : List Nat} {ti : ByteArray} {bud : Int} {T : Trl}
def NK (P P':St.Pst):Prop:=P'.n=P.n∧P'.k=P.k
theorem NK.of {P P':St.Pst} (h:St.SameX P P'):NK P P':=⟨h.n,h.k⟩
theorem nk_round (P:St.Pst) (c:Nat) (a:Int):NK P (St.roundP P c a):=NK.of (P:= {P with cl:=St.updP P.cl c (St.roundX (P.cl c) a)}) (St.sendsP_same _ _ _ _)
theorem nk_asked (P:St.Pst) (c:Nat):NK P (St.askedP P c):=by
 unfold St.askedP
 split
 ·exact nk_round {P with cl:=St.updP P.cl c (St.askedX c (P.cl c))} c 2
 ·exact⟨rfl,rfl⟩
theorem nk_count (P:St.Pst) (m:St.Mq):NK P (St.countP_ P m):=by
 unfold St.countP_
 split
 ·split
  ·split
   ·exact nk_asked {P with cl:=St.updP P.cl (m.tt - P.n).toNat (St.countX (P.cl (m.tt - P.n).toNat) m)} _
   ·exact⟨rfl,rfl⟩
  ·split<;>exact⟨rfl,rfl⟩
 ·exact⟨rfl,rfl⟩
theorem nk_answer (P:St.Pst) (m:St.Mq):NK P (St.answerP P m):=NK.of (P:= {P with has:=St.upd2 P.has m.tt.toNat m.key.toNat (St.answerH (P.has m.tt.toNat m.key.toNat) m)}) (St.sendP_same _ _)
theorem nk_deli (P:St.Pst) (i:Int):NK P (St.deliP P i):=by
 unfold St.deliP
 split
 ·rename_i m hm
  split
  ·split
   ·unfold St.gotP
    split
    ·exact nk_answer {P with mails:=P.mails.eraseIdx i.toNat} m
    ·exact nk_count {P with mails:=P.mails.eraseIdx i.toNat} m
   ·exact⟨rfl,rfl⟩
  ·exact⟨rfl,rfl⟩
 ·exact⟨rfl,rfl⟩
theorem nk_beg (P:St.Pst) (c key:Int) (wr:Bool) (v:Int):NK P (St.begP P c key wr v):=by
 unfold St.begP
 split
 ·exact⟨rfl,rfl⟩
 ·split
  ·exact nk_round {P with evs:=P.evs++ [St.callP c.toNat key wr v],sts:=P.sts++ [zeroS],cl:=St.updP P.cl c.toNat {P.cl c.toNat with call:=St.callP c.toNat key wr v,kept:=hd0}} _ 1
  ·exact⟨rfl,rfl⟩
theorem nk_play (P:St.Pst) (m:Mvs):NK P (St.playP P m):=by
 unfold St.playP
 split
 ·exact nk_beg _ _ _ _ _
 split
 ·exact nk_beg _ _ _ _ _
 split
 ·exact nk_deli _ _
 split
 ·unfold St.dropP;split<;>exact⟨rfl,rfl⟩
 split
 ·unfold St.doubP
  split
  ·split
   ·exact NK.of (St.sendP_same _ _)
   ·exact⟨rfl,rfl⟩
  ·exact⟨rfl,rfl⟩
 split
 ·unfold St.givePP
  split
  ·split<;>exact⟨rfl,rfl⟩
  ·exact⟨rfl,rfl⟩
 split
 ·exact⟨rfl,rfl⟩
 ·unfold St.cutP
  split<;>exact⟨rfl,rfl⟩
theorem play_k (P:St.Pst) (m:Mvs):(St.playP P m).k=P.k:=(nk_play P m).2
theorem play_n (P:St.Pst) (m:Mvs):(St.playP P m).n=P.n:=(nk_play P m).1
theorem TrW.s {w0 W:World} {Bt:Nat} {K:St.StK} {v:Value} {bs:List Nat} {ti:ByteArray} {bud:Int} {T:Trl} (h:TrW w0 W Bt K v bs ti bud T) (s':Sto):TrW w0 W Bt K v bs ti bud {T with s:=s'} :=⟨h.st,h.tp,h.gn,h.Bn,h.c,h.dj⟩
theorem bad_asked {T:Trl} {c:Int} {x:Gn.Cl} (h:¬St.playC T.p (mvB c x)=0):St.playP T.p (mvB c x)=T.p:=by
 obtain⟨wr,k,y⟩:=x;cases wr<;>exact St.begP_no h
def BegTold (w0:World) (Bt:Nat) (v:Value) (ti:ByteArray) (bud:Int) (T:Trl) (c:Int) (e:Ending) (w':World):Prop:=
 e=.returned (.bool (begF T c).2)∧∃K' bs',TrW w0 w' Bt K' v bs' ti bud (begF T c).1
theorem free_call (h:TrW w0 W Bt K v bs ti bud T) {b:Nat} (hI:St.PInv T.p b) (c:Int):Calls Tryz.prog 101 #[.pointer (some ⟨K.B,0,none⟩),.int .i64 c] W fun e w'=>e=.returned (St.toldE (St.freeP T.p c))∧Below W.heap.size W w':=
 St.free_any h.st hI.k8 (by have:=hI.ev;have:=hI.b0;omega) c
theorem begin_call (h:TrW w0 W Bt K v bs ti bud T) {b:Nat} (hI:St.PInv T.p b) (c:Int) (x:Gn.Cl):Calls Tryz.prog 102 #[.pointer (some ⟨K.B,0,none⟩),.int .i64 c,.int .i64 x.key,.bool x.wr,.int .i64 x.v] W fun e w'=>e=.returned (St.toldE (St.playC T.p (mvB c x)))∧∃K',TrW w0 w' Bt K' v bs ti bud (T.play (mvB c x))∧K'.B=K.B∧(∀b,b < W.heap.size→¬K.own T.p.k b→w'.heap[b]?=W.heap[b]?)∧W.heap.size≤w'.heap.size:=by
 have key:St.playC T.p (mvB c x)=St.begC T.p c x.key x.wr x.v∧St.playP T.p (mvB c x)=St.begP T.p c x.key x.wr x.v:=by
  obtain⟨wr,k,y⟩:=x;cases wr<;>exact⟨rfl,rfl⟩
 refine(St.begin_any h.st hI.bnd c x.key x.wr x.v).mono ?_;rintro e w' ⟨rfl,hT⟩;rw[←key.1];rw[←key.2] at hT;exact⟨rfl,h.store _ hT (play_k _ _) (play_n _ _)⟩
set_option maxRecDepth 100000 in
set_option maxHeartbeats 8000000 in
theorem beginT_any (h:TrW w0 W Bt K v bs ti bud T) {b:Nat} (hI:St.PInv T.p b) (hg:T.begun≤40) (hu:T.t.u+Gn.wtF 20 T.g≤1000000000) (c:Int):
  Calls Tryz.prog 47 #[.pointer (some ⟨Bt,0,none⟩),.int .i64 c] W (BegTold w0 Bt v ti bud T c):=by
 obtain⟨⟨c0,c1,c5,c7,c8,c9,c12,c13,f12,f13⟩⟩:Nonempty (TrC W Bt T.p K v ti bud T.begun T.over):=⟨h.c⟩;have HH:=hideIt h;by_cases ho:T.over=true
 ·have hB:Hid (begF T c=(T,false)):=by show begF T c=(T,false);unfold begF;rw[if_pos (.inl ho)]
  rw[ho] at c13;clear h hI hg hu c0 c1 c5 c7 c9 f12 f13;go_enter Tryz.func47,Tryz.ntmps47
  go_wp2;go_ret;refine⟨by rw[hB.out];rfl,K,bs,by rw[hB.out];exact HH.out⟩
 have ho':T.over=false:=by cases e:T.over with
  | false=>rfl
  | true=>exact absurd e ho
 by_cases h40:T.begun=40
 ·have hB:Hid (begF T c=(T,false)):=by show begF T c=(T,false);unfold begF;rw[if_pos (.inr (.inl h40))]
  rw[ho'] at c13;rw[h40] at c12;clear h hI hg hu c0 c1 c5 c7 c9 f12 f13 ho;go_enter Tryz.func47,Tryz.ntmps47
  go_wp2;go_ret;refine⟨by rw[hB.out];rfl,K,bs,by rw[hB.out];exact HH.out⟩
 have hne:(((T.begun:Int))==40)=false:=by simp;omega
 have HFr:=hideIt (free_call h hI c);by_cases hfr:¬St.freeP T.p c=0
 ·have hB:Hid (begF T c=(T,false)):=by show begF T c=(T,false);unfold begF;rw[if_pos (.inr (.inr hfr))]
  have hE:St.toldE (St.freeP T.p c)=.iface 55 (.int .i64 (St.freeP T.p c)):=by unfold St.toldE;rw[if_neg hfr]
  rw[hE] at HFr;rw[ho'] at c13;clear h hI hg hu c0 c1 c5 c7 c9 f12 f13 ho hE;generalize St.freeP T.p c=fr at*
  go_enter Tryz.func47,Tryz.ntmps47
  go_wp2_with fail
  refine HFr.out.mono ?_;rintro x w1 ⟨rfl,hb⟩;have H1:=hideIt (HH.out.below hb);clear hb HFr;go_wp2;go_ret;refine⟨by rw[hB.out];rfl,K,bs,by rw[hB.out];exact H1.out⟩
 replace hfr:St.freeP T.p c=0:=Classical.not_not.1 hfr;have hE:St.toldE (St.freeP T.p c)=.nilIface:=by rw[hfr];rfl
 rw[hE] at HFr;have hBeg:begF T c=match T.nx.c with
  | none=>({T.asked with over:=true},false)
  | some x=>if St.playC T.p (mvB c x)≠0 then (T.asked,false) else ({T.asked.play (mvB c x) with begun:=T.begun+1},true):=by
  unfold begF;rw[if_neg (fun e=>by rcases e with e | e | e;exact ho e;exact h40 e;exact e hfr)];rfl
 have HBeg:=hideIt hBeg;have HI:=hideIt hI;have HU:=hideIt hu;obtain⟨Ty,x,F,hMt⟩:=Gn.met_of h.gn;have hsh:=hMt.shape;subst hsh;have hnil:=hMt.nil;have hmet:=hMt.met;have hent:=hMt.ent;have HMt:=hideIt hMt;rw[ho'] at c13;clear h hI hu hfr hE hBeg hMt c0 c1 c5 c7 f12 f13 ho h40;go_enter Tryz.func47,Tryz.ntmps47
 go_wp2_with fail
 refine HFr.out.mono ?_;rintro y w1 ⟨rfl,hb⟩;have h1:=HH.out.below hb;have d8:=h1.c.c8;have d9:=h1.c.c9;have H1:=hideIt h1;have HNx:Hid (∀Z,Below w1.heap.size w1 Z→Calls Tryz.prog F #[x,.pointer (some ⟨Bt,10,none⟩)] Z (Gn.NxTold 20 w0.heap.size Bt 10 T.t Z (.iface Ty x) T.g bs)):=fun Z hZ=>by
  have h2:=H1.out.below hZ;exact Gn.allNx 20 w0.heap.size Bt 10 T.t Z (.iface Ty x) T.g bs h2.gn h2.tp h2.Bn HU.out Ty x F HMt.out
 clear hb HFr c8 c9 c12 c13 h1;go_upto_region 3 with fail
 have HT0:=hideIt (⟨d8,d9⟩:w1.cell? ⟨Bt,8,none⟩=some (.pointer (some ⟨K.B,0,none⟩))∧w1.cell? ⟨Bt,9,none⟩=some (.iface Ty x))
 go_cut [5,6] from 27 to 39 (fun g o wx=>∃G bs2 q kk vv,g=.pointer (some ⟨G,0,none⟩)∧o=.bool T.nx.c.isSome∧Gn.clA T.nx.c=.agg #[.bool q,.int .i64 kk,.int .i64 vv]∧wx.heap[G]?=some (.cells #[.bool q,.int .i64 kk,.int .i64 vv] 195 (0,0))∧¬K.own T.p.k G∧TrW w0 wx Bt K (.iface Ty x) bs2 ti bud T.asked)
 case first=>
  refine wp_region_held_drew (S:=fun Z=>Z.cell? ⟨Bt,8,none⟩=some (.pointer (some ⟨K.B,0,none⟩))∧Z.cell? ⟨Bt,9,none⟩=some (.iface Ty x)) (by kernel_rfl) ⟨d8,d9⟩ (fun hHeld=>?_);refine tkH 0 ?_ rfl ?_ ?_;rotate_left 1
  ·intro wz hwz;go_simp;all_goals with_reducible rfl
  simp only[Act.put,p1,p2,p3,p4,p5];refine tkH 1 ?_ rfl ?_ ?_;rotate_left 1
  ·intro wz hwz;go_simp;all_goals with_reducible rfl
  simp only[Act.put,p1,p2,p3,p4,p5,p6];refine tkH 2 ?_ rfl ?_ ?_;rotate_left 1
  ·intro wz hwz;go_simp;all_goals with_reducible rfl
  simp only[Act.put,p1,p2,p3,p4,p5,p6];refine tkH 3 ?_ rfl ?_ ?_;rotate_left 1
  ·intro wz hwz;obtain⟨z8,z9⟩:=hwz;go_simp;all_goals with_reducible rfl
  simp only[Act.put,p1,p2,p3,p4,p5,p6];refine tkH 4 ?_ rfl ?_ ?_;rotate_left 1
  ·intro wz hwz;go_simp;all_goals with_reducible rfl
  simp only[Act.put,p1,p2,p3,p4,p5,p6];refine tkH 5 ?_ rfl ?_ ?_;rotate_left 1
  ·intro wz hwz;go_simp;all_goals with_reducible rfl
  simp only[Act.put,p1,p2,p3,p4,p5,p6];refine tkH 6 ?_ rfl ?_ ?_;rotate_left 1
  ·intro wz hwz;go_simp;all_goals with_reducible rfl
  simp only[Act.put,p1,p2,p3,p4,p5,p6];refine tkH 7 ?_ rfl ?_ ?_;rotate_left 1
  ·intro wz hwz;go_simp;all_goals with_reducible rfl
  simp only[Act.put,p1,p2,p3,p4,p5,p6];refine tkH 8 ?_ rfl ?_ ?_;rotate_left 1
  ·intro wz hwz;go_simp;all_goals with_reducible rfl
  simp only[Act.put,p1,p2,p3,p4,p5,p6];refine wpAnyH_ready (rs:= [9,13]) (by kernel_rfl) (by simp) (AllReadyH.cons rfl (fun K9 hK=>?_) (AllReadyH.cons rfl (fun K9 hK=>?_) AllReadyH.nil))
  ·go_simp;refine(HNx.out _ ((Below.refl _ _).drew)).mono ?_;rintro y V2 hN;obtain⟨bs2,h2,hsb⟩:=(H1.out.below ((Below.refl _ _).drew)).next hN;have hret:=hN.ret;obtain⟨q,kk,vv,hcl⟩:=Gn.clV_form (Gn.nextF 20 T.g T.t).c;unfold Gn.clV at hret;rw[hcl] at hret;subst hret;have H2:=hideIt h2;have HCl:=hideIt hcl;have e8:=h2.c.c8;have e9:=h2.c.c9;generalize hok:(Gn.nextF 20 T.g T.t).c.isSome=ok;have HOk:=hideIt hok;clear hN h2 hcl hok;refine hK.out _ _ ⟨e8,e9⟩ (fun hHeld=>?_);clear hK K9;refine tkH 10 ?_ rfl ?_ ?_;rotate_left 1
   ·intro wz hwz;go_simp;all_goals with_reducible rfl
   simp only[Act.put,p1,p2,p3,p4,p5,p6];refine tkH 11 ?_ rfl ?_ ?_;rotate_left 1
   ·intro wz hwz;go_simp;all_goals with_reducible rfl
   simp only[Act.put,p1,p2,p3,p4,p5,p6];refine tkH 12 ?_ rfl ?_ ?_;rotate_left 1
   ·intro wz hwz;go_simp;all_goals with_reducible rfl
   simp only[Act.put,p1,p2,p3,p4,p5,p6];refine wpAnyH_ready (rs:= [13]) (by kernel_rfl) (by simp) (AllReadyH.cons rfl (fun K9 hK=>?_) AllReadyH.nil);go_simp;have h3:=H2.out.below (St.belA (Below.refl V2.heap.size V2) (.cells #[.bool false,.int .i64 0,.int .i64 0] 195));have H3:=hideIt h3;refine hK.out _ _ ⟨h3.c.c8,h3.c.c9⟩ (fun hHeld=>?_);clear hK K9 h3;refine wpAnyH_ready (rs:= [14]) (by kernel_rfl) (by simp) (AllReadyH.cons rfl (fun K9 hK=>?_) AllReadyH.nil);go_simp;have h4:=H2.out.below (St.belA (Below.refl V2.heap.size V2) (.cells #[.bool q,.int .i64 kk,.int .i64 vv] 195));have H4:=hideIt h4;refine hK.out _ _ ⟨h4.c.c8,h4.c.c9⟩ (fun hHeld=>?_);clear hK K9 h4;refine tkH 15 ?_ rfl ?_ ?_;rotate_left 1
   ·intro wz hwz;go_simp;all_goals with_reducible rfl
   simp only[Act.put,p1,p2,p3,p4,p5,p6];refine wpAnyH_done (by kernel_rfl) ?_ _;go_wp2_with fail
   go_meet
   exact⟨V2.heap.size,bs2,q,kk,vv,rfl,by rw[←HOk.out];rfl,HCl.out,heap_alloc_new V2 _,fun ho=>by have:=(H2.out.st.own_lt ho).2;omega,H4.out⟩
  ·go_simp;have hZb:Below w1.heap.size w1 (w1.alloc (.cells #[.bool false,.int .i64 0,.int .i64 0] 195)).drew:=(St.belA (Below.refl _ _) _).drew;have hG0:(w1.alloc (.cells #[.bool false,.int .i64 0,.int .i64 0] 195)).drew.heap[w1.heap.size]?=some (.cells #[.bool false,.int .i64 0,.int .i64 0] 195 (0,0)):=heap_alloc_new w1 _;have h3:=H1.out.below hZb;have H3:=hideIt h3;have HG0:=hideIt hG0;have HN3:=hideIt (HNx.out _ hZb);refine hK.out _ _ ⟨h3.c.c8,h3.c.c9⟩ (fun hHeld=>?_);clear hK K9 h3 hZb hG0;generalize (w1.alloc (.cells #[.bool false,.int .i64 0,.int .i64 0] 195)).drew=Z at*
   refine wpAnyH_ready (rs:= [9]) (by kernel_rfl) (by simp) (AllReadyH.cons rfl (fun K9 hK=>?_) AllReadyH.nil);go_simp;refine HN3.out.mono ?_;rintro y V2 hN;obtain⟨bs2,h2,hsb⟩:=H3.out.next hN;have hret:=hN.ret;obtain⟨q,kk,vv,hcl⟩:=Gn.clV_form (Gn.nextF 20 T.g T.t).c;unfold Gn.clV at hret;rw[hcl] at hret;subst hret;have hsub:∀b∈Bt::bs,b < w1.heap.size:=fun b hb=>(H1.out.lo hb).2
   have hG2:V2.heap[w1.heap.size]?=some (.cells #[.bool false,.int .i64 0,.int .i64 0] 195 (0,0)):=(hN.fr.block _ (lt_of_heap HG0.out) (fun hx=>by have:=hsub _ hx;omega)).trans HG0.out;have HG2:=hideIt hG2;have hGn:Hid (¬K.own T.p.k w1.heap.size∧w1.heap.size≠Bt∧w1.heap.size∉bs2):=⟨fun ho=>by have:=(H1.out.st.own_lt ho).2;omega,fun e=>by have:=hsub Bt (by simp);omega,fun hm=>by have:=hsub _ (List.mem_cons_of_mem _ (hsb _ hm));omega⟩;have H2:=hideIt h2;have HCl:=hideIt hcl;have e8:=h2.c.c8;have e9:=h2.c.c9;generalize hok:(Gn.nextF 20 T.g T.t).c.isSome=ok;have HOk:=hideIt hok;clear hN h2 hcl hok hG2;refine hK.out _ _ ⟨e8,e9⟩ (fun hHeld=>?_);clear hK K9;refine tkH 10 ?_ rfl ?_ ?_;rotate_left 1
   ·intro wz hwz;go_simp;all_goals with_reducible rfl
   simp only[Act.put,p1,p2,p3,p4,p5,p6];refine tkH 11 ?_ rfl ?_ ?_;rotate_left 1
   ·intro wz hwz;go_simp;all_goals with_reducible rfl
   simp only[Act.put,p1,p2,p3,p4,p5,p6];refine tkH 12 ?_ rfl ?_ ?_;rotate_left 1
   ·intro wz hwz;go_simp;all_goals with_reducible rfl
   simp only[Act.put,p1,p2,p3,p4,p5,p6];obtain⟨g0,g1,g2⟩:=Gn.blk3 HG2.out;have gf:∀i,V2.frozen? ⟨w1.heap.size,i,none⟩=false:=fun i=>frozen_of_row _ _ _ _ 195 HG2.out
   refine wpAnyH_ready (rs:= [14]) (by kernel_rfl) (by simp) (AllReadyH.cons rfl (fun K9 hK=>?_) AllReadyH.nil);go_simp;have h4:=H2.out.res (G:=w1.heap.size) (q:=q) (k:=kk) (y:=vv) HG2.out (by decide) H1.out.st.bel.size hGn.out.1 hGn.out.2;have H4:=hideIt h4;have hG4:(Gn.set3 V2 w1.heap.size (.bool q) (.int .i64 kk) (.int .i64 vv)).heap[w1.heap.size]?=some (.cells #[.bool q,.int .i64 kk,.int .i64 vv] 195 (0,0)):=by
    unfold Gn.set3;have a1:=heap_setCell_same V2 w1.heap.size 0 _ 195 (.bool q) HG2.out;have a2:=heap_setCell_same _ w1.heap.size 1 _ 195 (.int .i64 kk) a1;exact heap_setCell_same _ w1.heap.size 2 _ 195 (.int .i64 vv) a2
   have HG4:=hideIt hG4;refine hK.out _ _ ⟨h4.c.c8,h4.c.c9⟩ (fun hHeld=>?_);clear hK K9 h4 hG4;refine tkH 15 ?_ rfl ?_ ?_;rotate_left 1
   ·intro wz hwz;go_simp;all_goals with_reducible rfl
   simp only[Act.put,p1,p2,p3,p4,p5,p6];refine wpAnyH_done (by kernel_rfl) ?_ _;go_wp2_with fail
   go_meet
   exact⟨w1.heap.size,bs2,q,kk,vv,rfl,by rw[←HOk.out];rfl,HCl.out,HG4.out,hGn.out.1,H4.out⟩
 case rest=>
  obtain⟨G,bs2,q,kk,vv,rfl,rfl,hcl,hG,hGo,h2⟩:=hcut;have H2:=hideIt h2;have HG:=hideIt hG;have HGo:=hideIt hGo;clear H1 HNx d8 d9 HT0 hnil hmet hent;cases hn:T.nx.c with
  | none=>
   have hB:Hid (begF T c=({T.asked with over:=true},false)):=by
    show begF T c=_;rw[HBeg.out,hn]
   have e13:=h2.c.c13;have f13:=h2.c.f13;clear HBeg hn h2 hcl hG hGo HG HGo;simp only[Option.isSome_none];go_wp2;go_ret;refine⟨by rw[hB.out];rfl,K,bs2,by rw[hB.out];exact H2.out.set13 true⟩
  | some y=>
   have hB:=HBeg.out;rw[hn] at hB;dsimp only at hB;rw[hn] at hcl;obtain⟨rfl,rfl,rfl⟩:q=y.wr∧kk=y.key∧vv=y.v:=by
    have e:(#[.bool y.wr,.int .i64 y.key,.int .i64 y.v]:Array Value)=#[.bool q,.int .i64 kk,.int .i64 vv]:=by injection hcl
    simp at e;exact⟨e.1.symm,e.2.1.symm,e.2.2.symm⟩
   have hc:Calls Tryz.prog 102 #[.pointer (some ⟨K.B,0,none⟩),.int .i64 c,.int .i64 y.key,.bool y.wr,.int .i64 y.v] wc.drew fun e w'=>e=.returned (St.toldE (St.playC T.p (mvB c y)))∧∃K',TrW w0 w' Bt K' (.iface Ty x) bs2 ti bud (T.asked.play (mvB c y))∧K'.B=K.B∧w'.heap[G]?=some (.cells #[.bool y.wr,.int .i64 y.key,.int .i64 y.v] 195 (0,0)):=by
    refine(begin_call (h2.below (Below.refl _ _).drew) (show St.PInv T.asked.p b from HI.out) c y).mono ?_;rintro e w' ⟨rfl,K',h3,hKB,hrest,hsz⟩;exact⟨rfl,K',h3,hKB,(hrest G (lt_of_heap hG) hGo).trans hG⟩
   have HC:=hideIt hc;obtain⟨g0,g1,g2⟩:=Gn.blk3 hG;have d8:=h2.c.c8;clear h2 hcl hG hGo hc HBeg hn;simp only[Option.isSome_some];go_upto_region 7 with fail
   refine wp_region_held_drew (S:=fun Z=>Z.cell? ⟨Bt,8,none⟩=some (.pointer (some ⟨K.B,0,none⟩))∧Z.cell? ⟨G,0,none⟩=some (.bool y.wr)∧Z.cell? ⟨G,1,none⟩=some (.int .i64 y.key)∧Z.cell? ⟨G,2,none⟩=some (.int .i64 y.v)) (by kernel_rfl) ⟨d8,g0,g1,g2⟩ (fun hHeld=>?_);refine tkH 0 ?_ rfl ?_ ?_;rotate_left 1
   ·intro wz hwz;go_simp;all_goals with_reducible rfl
   simp only[Act.put,p1,p2,p3,p4,p5];refine tkH 1 ?_ rfl ?_ ?_;rotate_left 1
   ·intro wz hwz;go_simp;all_goals with_reducible rfl
   simp only[Act.put,p1,p2,p3,p4,p5,p6];refine tkH 2 ?_ rfl ?_ ?_;rotate_left 1
   ·intro wz hwz;go_simp;all_goals with_reducible rfl
   simp only[Act.put,p1,p2,p3,p4,p5,p6];refine tkH 3 ?_ rfl ?_ ?_;rotate_left 1
   ·intro wz hwz;obtain⟨z8,z0,z1,z2⟩:=hwz;go_simp;all_goals with_reducible rfl
   simp only[Act.put,p1,p2,p3,p4,p5,p6];refine tkH 4 ?_ rfl ?_ ?_;rotate_left 1
   ·intro wz hwz;go_simp;all_goals with_reducible rfl
   simp only[Act.put,p1,p2,p3,p4,p5,p6];refine tkH 5 ?_ rfl ?_ ?_;rotate_left 1
   ·intro wz hwz;go_simp;all_goals with_reducible rfl
   simp only[Act.put,p1,p2,p3,p4,p5,p6];refine tkH 6 ?_ rfl ?_ ?_;rotate_left 1
   ·intro wz hwz;obtain⟨z8,z0,z1,z2⟩:=hwz;go_simp;all_goals with_reducible rfl
   simp only[Act.put,p1,p2,p3,p4,p5,p6];refine tkH 7 ?_ rfl ?_ ?_;rotate_left 1
   ·intro wz hwz;go_simp;all_goals with_reducible rfl
   simp only[Act.put,p1,p2,p3,p4,p5,p6];refine tkH 8 ?_ rfl ?_ ?_;rotate_left 1
   ·intro wz hwz;obtain⟨z8,z0,z1,z2⟩:=hwz;go_simp;all_goals with_reducible rfl
   simp only[Act.put,p1,p2,p3,p4,p5,p6];refine tkH 9 ?_ rfl ?_ ?_;rotate_left 1
   ·intro wz hwz;go_simp;all_goals with_reducible rfl
   simp only[Act.put,p1,p2,p3,p4,p5,p6];refine tkH 10 ?_ rfl ?_ ?_;rotate_left 1
   ·intro wz hwz;obtain⟨z8,z0,z1,z2⟩:=hwz;go_simp;all_goals with_reducible rfl
   simp only[Act.put,p1,p2,p3,p4,p5,p6];refine wpAnyH_ready (rs:= [11]) (by kernel_rfl) (by simp) (AllReadyH.cons rfl (fun K9 hK=>?_) AllReadyH.nil);go_simp;refine HC.out.mono ?_;rintro z w3 ⟨rfl,K3,h3,hKB,hG3⟩;obtain⟨k0,k1,k2⟩:=Gn.blk3 hG3;have k8:=h3.c.c8;rw[hKB] at k8;by_cases hpc:St.playC T.p (mvB c y)=0
   ·rw[hpc] at hB;rw[if_neg (fun e=>e rfl)] at hB;have HB:=hideIt hB;have e12:=h3.c.c12;have f12:=h3.c.f12;have H3:=hideIt h3;rw[hpc];simp only[St.toldE,if_pos];clear hB h3 hG3 HC;refine hK.out _ _ ⟨k8,k0,k1,k2⟩ (fun hHeld=>?_);clear hK K9;refine tkH 12 ?_ rfl ?_ ?_;rotate_left 1
    ·intro wz hwz;go_simp;all_goals with_reducible rfl
    simp only[Act.put,p1,p2,p3,p4,p5,p6];refine wpAnyH_done (by kernel_rfl) ?_ _;go_wp2;go_ret;refine⟨by rw[HB.out];rfl,K3,bs2,?_⟩;rw[HB.out,show (T.asked.play (mvB c y)).begun=T.begun from rfl,show wrap64 ((T.begun:Int)+1)=(T.begun:Int)+1 by unfold wrap64;omega];have e:=H3.out.set12 (T.begun+1)
    rwa [Int.natCast_add] at e
   ·rw[if_pos (fun e=>hpc e)] at hB;have HB:=hideIt hB;have h4:TrW w0 w3 Bt K3 (.iface Ty x) bs2 ti bud T.asked:=by
     have h5:=h3.s T.asked.s;have e:St.playP T.asked.p (mvB c y)=T.asked.p:=bad_asked hpc;unfold Trl.play at h5;rw[e] at h5;exact h5
    have H4:=hideIt h4;have hE:St.toldE (St.playC T.p (mvB c y))=.iface 55 (.int .i64 (St.playC T.p (mvB c y))):=by unfold St.toldE;rw[if_neg hpc]
    have hE2:(St.toldE (St.playC T.asked.p (mvB c y)))=.iface 55 (.int .i64 (St.playC T.p (mvB c y))):=hE;try rw[hE]
    try rw[hE2]
    clear hB h3 hG3 HC h4 hE hE2;generalize St.playC T.p (mvB c y)=fr at*
    refine hK.out _ _ ⟨k8,k0,k1,k2⟩ (fun hHeld=>?_);clear hK K9;refine tkH 12 ?_ rfl ?_ ?_;rotate_left 1
    ·intro wz hwz;go_simp;all_goals with_reducible rfl
    simp only[Act.put,p1,p2,p3,p4,p5,p6];refine wpAnyH_done (by kernel_rfl) ?_ _;go_wp2;go_ret;refine⟨by rw[HB.out];rfl,K3,bs2,by rw[HB.out];exact H4.out⟩
end
end Go.Proofs.YtjpklmighoondaaGreatDoor.Fa
