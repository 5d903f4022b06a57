/-
  A plan that is tried, walked: cut, trouble, move.
-/
import Derived.Test.YtjpklmighoondaaGreatDoorFieldsQY
import Derived.Test.YtjpklmighoondaaGreatDoorFaBY
import Derived.Test.YtjpklmighoondaaGreatDoorSwKY
import Derived.Test.YtjpklmighoondaaGreatDoorSwOY
set_option maxRecDepth 100000
namespace Go.Proofs.YtjpklmighoondaaGreatDoor.Fa
open Go.RowKit
section
variable {w0 W W' : World} {Bt : Nat} {K : St.StK} {v : Value} {bs : List Nat} {ti : ByteArray} {bud : Int} {T : Trl}
def MvTold (w0:World) (Bt:Nat) (v:Value) (ti:ByteArray) (bud:Int) (T':Trl) (e:Ending) (w':World):Prop:=
 e=.returned (.tuple #[])∧∃K' bs',TrW w0 w' Bt K' v bs' ti bud T'
def StpTold (w0:World) (Bt:Nat) (v:Value) (bs:List Nat) (ti:ByteArray) (bud:Int) (K:St.StK) (T':Trl) (e:Ending) (w':World):Prop:=
 (∃x,e=.returned x)∧∃K',TrW w0 w' Bt K' v bs ti bud T'∧K'.B=K.B
theorem stp (h:TrW w0 W Bt K v bs ti bud T) (m:Mvs) {c:Value} {P':St.Pst} {F:FuncId} {a:Array Value} (e:St.playP T.p m=P') (hc:Calls Tryz.prog F a W fun en W'=>en=.returned c∧St.StTold w0 K T.p W P' W'):Calls Tryz.prog F a W (StpTold w0 Bt v bs ti bud K (T.play m)):=by
 refine hc.mono ?_;rintro en W' ⟨rfl,hT⟩;rw[←e] at hT;obtain⟨K',h1,h2,_⟩:=h.store (playS T.s m) hT (play_k _ _) (play_n _ _);exact⟨⟨_,rfl⟩,K',h1,h2⟩
theorem deli_call (h:TrW w0 W Bt K v bs ti bud T) {b:Nat} (hI:St.PInv T.p b) (i:Int):Calls Tryz.prog 49 #[.pointer (some ⟨K.B,0,none⟩),.int .i64 i] W (StpTold w0 Bt v bs ti bud K (T.play ⟨2,i,0,0⟩)):=
 stp h _ rfl (St.deliver_any h.st hI.bnd i)
theorem drop_call (h:TrW w0 W Bt K v bs ti bud T) {b:Nat} (hI:St.PInv T.p b) (i:Int):Calls Tryz.prog 51 #[.pointer (some ⟨K.B,0,none⟩),.int .i64 i] W (StpTold w0 Bt v bs ti bud K (T.play ⟨3,i,0,0⟩)):=
 stp h _ rfl (St.dropS_any h.st hI.ml i)
theorem doub_call (h:TrW w0 W Bt K v bs ti bud T) {b:Nat} (_:St.PInv T.p b) (i:Int):Calls Tryz.prog 52 #[.pointer (some ⟨K.B,0,none⟩),.int .i64 i] W (StpTold w0 Bt v bs ti bud K (T.play ⟨4,i,0,0⟩)):=
 stp h _ rfl (St.doubleS_any h.st i)
theorem give_call (h:TrW w0 W Bt K v bs ti bud T) {b:Nat} (hI:St.PInv T.p b) (c:Int):Calls Tryz.prog 113 #[.pointer (some ⟨K.B,0,none⟩),.int .i64 c] W (StpTold w0 Bt v bs ti bud K (T.play ⟨5,c,0,0⟩)):=
 stp h _ rfl (St.giveUp_any h.st (by have:=hI.ev;have:=hI.b0;omega) (by have:=hI.st;have:=hI.b0;omega) c)
theorem all_call (h:TrW w0 W Bt K v bs ti bud T):Calls Tryz.prog 54 #[.pointer (some ⟨K.B,0,none⟩),.slice none 0 0] W (StpTold w0 Bt v bs ti bud K (T.play ⟨6,0,0,0⟩)):=
 stp h _ rfl (St.cutS_nil h.st)
theorem lnk_form {X:Nat→Prop} {lv:Value} {n:Nat} {r:Nat→Nat→Bool} (h:St.LnkS W X lv (St.tabL n r)) (hn:1≤n):∃a c,lv=.slice (some a) n c:=by
 obtain⟨a,cap,e,h⟩:=h;have hl:(St.tabL n r).length=n:=by simp[St.tabL]
 rcases h with h | ⟨g,off,ha,_⟩
 ·rw[h] at hl;simp at hl;omega
 ·exact⟨⟨g,off,none⟩,cap,by rw[e,ha,hl]⟩
theorem wide_call (h:TrW w0 W Bt K v bs ti bud T) {b:Nat} (hI:St.PInv T.p b) {X:Nat→Prop} {lv:Value} (m:Mvs) (rule who:Int) (hm:St.playP T.p m=St.wideP T.p (St.linkN rule T.p.n who)) (hl:St.LnkS W X lv (St.tabL T.p.n (St.linkN rule T.p.n who))):Calls Tryz.prog 54 #[.pointer (some ⟨K.B,0,none⟩),lv] W (StpTold w0 Bt v bs ti bud K (T.play m)):=by
 obtain⟨a,c,rfl⟩:=lnk_form hl hI.n1;exact stp h _ hm (St.cutS_any h.st hI.n1 hI.n7 hI.k8 _ X hl)
set_option maxHeartbeats 4000000 in
theorem cutT_any (h:TrW w0 W Bt K v bs ti bud T) {b:Nat} (hI:St.PInv T.p b) {X:Nat→Prop} {lv:Value} (m:Mvs) (rule who:Int) (hm:St.playP T.p m=St.wideP T.p (St.linkN rule T.p.n who)) (hl:St.LnkS W X lv (St.tabL T.p.n (St.linkN rule T.p.n who))):Calls Tryz.prog 108 #[.pointer (some ⟨Bt,0,none⟩),lv,.nilIface] W (MvTold w0 Bt v ti bud (T.play m)):=by
 have HC:=hideIt (wide_call h hI m rule who hm hl);have c8:=h.c.c8;clear h hI hm hl;go_enter Tryz.func108,Tryz.ntmps108
 go_wp2_with fail
 refine HC.out.mono ?_;rintro e w1 ⟨⟨x,rfl⟩,K',h1,_⟩;have H1:=hideIt h1;clear HC h1;go_wp2;exact bodyPost_ret (results_none rfl _ _ _) rfl ⟨rfl,K',bs,H1.out⟩
theorem cut_play (P:St.Pst) (h1:1≤P.n) (h7:P.n≤7) (what:Int) (hw:8≤what∧what≤11) (who:Int) (hwho:what=11→0≤who∧who < P.n):St.playP P ⟨what,P.n,who,0⟩=St.wideP P (St.linkN (St.ruleW what) P.n who):=by
 unfold St.playP;rw[if_neg (by show ¬what=0;omega),if_neg (by show ¬what=1;omega),if_neg (by show ¬what=2;omega),if_neg (by show ¬what=3;omega),if_neg (by show ¬what=4;omega),if_neg (by show ¬what=5;omega),if_neg (by show ¬what=6;omega)];show St.cutP P (St.ruleW what) P.n who=_;unfold St.cutP;rw[if_pos];unfold St.cutC;rw[if_neg (by omega),if_neg,if_neg (by omega)];rintro⟨e,e'⟩;have:what=11:=by
  unfold St.ruleW at e
  split at e<;>omega
 have:=hwho this;omega
set_option maxHeartbeats 8000000 in
theorem trouT_any (h:TrW w0 W Bt K v bs ti bud T) {b:Nat} (hI:St.PInv T.p b) (hu:T.t.u+2≤1000000000):Calls Tryz.prog 53 #[.pointer (some ⟨Bt,0,none⟩)] W (MvTold w0 Bt v ti bud (trouF T)):=by
 have HT0:=hideIt (h.tape (by omega) 6 (by decide));obtain⟨dlo,dhi⟩:=Gn.Tp.below_lt (t:=T.t) (n:=6) (by decide);have hu1:(T.on 6).t.u≤T.t.u+1:=by
  show (T.t.on 6).u≤_;unfold Gn.Tp.on;rw[if_neg (by decide)];exact Nat.le_refl _
 generalize hT1:T.on 6=T1 at*
 have hp:T1.p=T.p:=by rw[←hT1];rfl
 have hF:trouF T=(if T.t.below 6=0 then T1.play ⟨6,0,0,0⟩ else if T.t.below 6=1 then T1.play ⟨8,T1.p.n,0,0⟩ else if T.t.below 6=2 then T1.play ⟨9,T1.p.n,0,0⟩ else if T.t.below 6=3 then T1.play ⟨10,T1.p.n,0,0⟩ else if T.t.below 6=4 then (T1.on T1.p.n).play ⟨11,T1.p.n,T1.t.below T1.p.n,0⟩ else (T1.on T1.p.k).play ⟨5,T1.t.below T1.p.k,0,0⟩):=by rw[←hT1];rfl
 generalize T.t.below 6=d at*
 have hI1:St.PInv T1.p b:=by rw[hp];exact hI
 have hn1:=hI1.n1;have hn7:=hI1.n7;have hk8:=hI1.k8;have HI:=hideIt hI1;have HF:=hideIt hF;clear h hI hI1 hF hp hT1;go_enter Tryz.func53,Tryz.ntmps53
 go_wp2_with fail
 refine HT0.out.mono ?_;rintro e w1 ⟨rfl,h1⟩;have H1:=hideIt h1;have c8:=h1.c.c8;have c0:=h1.c.c0;clear h1 HT0;have hd:d=0∨d=1∨d=2∨d=3∨d=4∨d=5:=by omega
 clear dlo dhi;rcases hd with rfl | rfl | rfl | rfl | rfl | rfl
 ·have hB:Hid (trouF T=T1.play ⟨6,0,0,0⟩):=HF;have HC:=hideIt (all_call H1.out);clear HF hu hu1 hn1 hn7 hk8;go_wp2_with fail
  refine HC.out.mono ?_;rintro e w2 ⟨⟨x,rfl⟩,K',h2,_⟩;have H2:=hideIt h2;clear HC h2;go_wp2;exact bodyPost_ret (results_none rfl _ _ _) rfl ⟨rfl,K',bs,by rw[hB.out];exact H2.out⟩
 ·have hB:Hid (trouF T=T1.play ⟨8,T1.p.n,0,0⟩):=HF;have HL:=hideIt (St.halves_any T1.p.n 0 w1);have HP:Hid (St.playP T1.p ⟨8,T1.p.n,0,0⟩=St.wideP T1.p (St.linkN 1 T1.p.n 0)):=cut_play T1.p hn1 hn7 8 (by decide) 0 (fun e=>absurd e (by decide));clear HF hu hu1 hk8;go_wp2_with fail
  refine HL.out.mono ?_;rintro e w2 (⟨hbad,_⟩ | ⟨n',hn',_,lv,rfl,hl,hb⟩)
  ·exfalso;omega
  have hnn:n'=T1.p.n:=by omega
  subst hnn;have HC:=hideIt (cutT_any (H1.out.below hb) HI.out ⟨8,T1.p.n,0,0⟩ 1 0 HP.out hl);clear hl hb HL hn';go_wp2_with fail
  refine HC.out.mono ?_;rintro e w3 ⟨rfl,K',bs',h3⟩;have H3:=hideIt h3;clear HC h3;go_wp2;exact bodyPost_ret (results_none rfl _ _ _) rfl ⟨rfl,K',bs',by rw[hB.out];exact H3.out⟩
 ·have hB:Hid (trouF T=T1.play ⟨9,T1.p.n,0,0⟩):=HF;have HL:=hideIt (St.bridge_any T1.p.n 0 w1);have HP:Hid (St.playP T1.p ⟨9,T1.p.n,0,0⟩=St.wideP T1.p (St.linkN 2 T1.p.n 0)):=cut_play T1.p hn1 hn7 9 (by decide) 0 (fun e=>absurd e (by decide));clear HF hu hu1 hk8;go_wp2_with fail
  refine HL.out.mono ?_;rintro e w2 (⟨hbad,_⟩ | ⟨n',hn',_,lv,rfl,hl,hb⟩)
  ·exfalso;omega
  have hnn:n'=T1.p.n:=by omega
  subst hnn;have HC:=hideIt (cutT_any (H1.out.below hb) HI.out ⟨9,T1.p.n,0,0⟩ 2 0 HP.out hl);clear hl hb HL hn';go_wp2_with fail
  refine HC.out.mono ?_;rintro e w3 ⟨rfl,K',bs',h3⟩;have H3:=hideIt h3;clear HC h3;go_wp2;exact bodyPost_ret (results_none rfl _ _ _) rfl ⟨rfl,K',bs',by rw[hB.out];exact H3.out⟩
 ·have hB:Hid (trouF T=T1.play ⟨10,T1.p.n,0,0⟩):=HF;have HL:=hideIt (St.ring_any T1.p.n 0 w1);have HP:Hid (St.playP T1.p ⟨10,T1.p.n,0,0⟩=St.wideP T1.p (St.linkN 3 T1.p.n 0)):=cut_play T1.p hn1 hn7 10 (by decide) 0 (fun e=>absurd e (by decide));clear HF hu hu1 hk8;go_wp2_with fail
  refine HL.out.mono ?_;rintro e w2 (⟨hbad,_⟩ | ⟨n',hn',_,lv,rfl,hl,hb⟩)
  ·exfalso;omega
  have hnn:n'=T1.p.n:=by omega
  subst hnn;have HC:=hideIt (cutT_any (H1.out.below hb) HI.out ⟨10,T1.p.n,0,0⟩ 3 0 HP.out hl);clear hl hb HL hn';go_wp2_with fail
  refine HC.out.mono ?_;rintro e w3 ⟨rfl,K',bs',h3⟩;have H3:=hideIt h3;clear HC h3;go_wp2;exact bodyPost_ret (results_none rfl _ _ _) rfl ⟨rfl,K',bs',by rw[hB.out];exact H3.out⟩
 ·have hB:Hid (trouF T=(T1.on T1.p.n).play ⟨11,T1.p.n,T1.t.below T1.p.n,0⟩):=HF;have HT1:=hideIt (fun Z hZ=>(H1.out.below (W':=Z) hZ).tape (by omega) T1.p.n (by omega));obtain⟨wlo,whi⟩:=Gn.Tp.below_lt (t:=T1.t) (n:=T1.p.n) (by omega);have HP:Hid (St.playP (T1.on T1.p.n).p ⟨11,T1.p.n,T1.t.below T1.p.n,0⟩=St.wideP (T1.on T1.p.n).p (St.linkN 4 (T1.on T1.p.n).p.n (T1.t.below T1.p.n))):=cut_play T1.p hn1 hn7 11 (by decide) (T1.t.below T1.p.n) (fun _=>⟨wlo,whi⟩);clear HF hu hu1 hk8;go_upto_region 11 with fail
  refine wp_region_held_drew (S:=fun Z=>Z.cell? ⟨Bt,0,none⟩=some (.int .i64 (T1.p.n:Int))) (by kernel_rfl) c0 (fun hHeld=>?_);refine tkH 0 ?_ rfl ?_ ?_;rotate_left 1
  ·intro wz hwz;go_simp;all_goals with_reducible rfl
  simp only[Act.put,p1,p2,p3,p4,p5];refine tkH 1 ?_ rfl ?_ ?_;rotate_left 1
  ·intro wz hwz;go_simp;all_goals with_reducible rfl
  simp only[Act.put,p1,p2,p3,p4,p5,p6];refine tkH 2 ?_ rfl ?_ ?_;rotate_left 1
  ·intro wz hwz;go_simp;all_goals with_reducible rfl
  simp only[Act.put,p1,p2,p3,p4,p5,p6];refine tkH 3 ?_ rfl ?_ ?_;rotate_left 1
  ·intro wz hwz;go_simp;all_goals with_reducible rfl
  simp only[Act.put,p1,p2,p3,p4,p5,p6];refine tkH 4 ?_ rfl ?_ ?_;rotate_left 1
  ·intro wz hwz;go_simp;all_goals with_reducible rfl
  simp only[Act.put,p1,p2,p3,p4,p5,p6];refine tkH 5 ?_ rfl ?_ ?_;rotate_left 1
  ·intro wz hwz;go_simp;all_goals with_reducible rfl
  simp only[Act.put,p1,p2,p3,p4,p5,p6];refine tkH 6 ?_ rfl ?_ ?_;rotate_left 1
  ·intro wz hwz;go_simp;all_goals with_reducible rfl
  simp only[Act.put,p1,p2,p3,p4,p5,p6];refine tkH 7 ?_ rfl ?_ ?_;rotate_left 1
  ·intro wz hwz;go_simp;all_goals with_reducible rfl
  simp only[Act.put,p1,p2,p3,p4,p5,p6];refine tkH 8 ?_ rfl ?_ ?_;rotate_left 1
  ·intro wz hwz;go_simp;all_goals with_reducible rfl
  simp only[Act.put,p1,p2,p3,p4,p5,p6];refine tkH 9 ?_ rfl ?_ ?_;rotate_left 1
  ·intro wz hwz;go_simp;all_goals with_reducible rfl
  simp only[Act.put,p1,p2,p3,p4,p5,p6];refine tkH 10 ?_ rfl ?_ ?_;rotate_left 1
  ·intro wz hwz;go_simp;all_goals with_reducible rfl
  simp only[Act.put,p1,p2,p3,p4,p5,p6];refine tkH 11 ?_ rfl ?_ ?_;rotate_left 1
  ·intro wz hwz;go_simp;all_goals with_reducible rfl
  simp only[Act.put,p1,p2,p3,p4,p5,p6];refine tkH 12 ?_ rfl ?_ ?_;rotate_left 1
  ·intro wz hwz;go_simp;all_goals with_reducible rfl
  simp only[Act.put,p1,p2,p3,p4,p5,p6];refine tkH 13 ?_ rfl ?_ ?_;rotate_left 1
  ·intro wz hwz;go_simp;all_goals with_reducible rfl
  simp only[Act.put,p1,p2,p3,p4,p5,p6];refine tkH 14 ?_ rfl ?_ ?_;rotate_left 1
  ·intro wz hwz;go_simp;all_goals with_reducible rfl
  simp only[Act.put,p1,p2,p3,p4,p5,p6];refine tkH 15 ?_ rfl ?_ ?_;rotate_left 1
  ·intro wz hwz;go_simp;all_goals with_reducible rfl
  simp only[Act.put,p1,p2,p3,p4,p5,p6];refine wpAnyH_ready (rs:= [16]) (by kernel_rfl) (by simp) (AllReadyH.cons rfl (fun K9 hK=>?_) AllReadyH.nil);go_simp;refine(HT1.out _ (Below.refl _ _).drew).mono ?_;rintro e w2 ⟨rfl,h2⟩;have H2:=hideIt h2;have e0:=h2.c.c0;clear h2 HT1;refine hK.out _ _ e0 (fun hHeld=>?_);clear hK K9;generalize hwh:T1.t.below T1.p.n=wh at*
  refine wpAnyH_ready (rs:= [17]) (by kernel_rfl) (by simp) (AllReadyH.cons rfl (fun K9 hK=>?_) AllReadyH.nil);go_simp;refine(St.alone_any T1.p.n wh _).mono ?_;rintro e w3 (⟨hbad,_⟩ | ⟨_,_,hbad,_⟩ | ⟨n',hn',_,_,lv,rfl,hl,hb⟩)
  ·exfalso;omega
  ·exfalso;omega
  have hnn:n'=T1.p.n:=by omega
  subst hnn;have h3:=H2.out.below hb;have HC:=hideIt (fun Z hZ=>cutT_any (h3.below (W':=Z) hZ) (show St.PInv (T1.on T1.p.n).p b from HI.out) ⟨11,T1.p.n,wh,0⟩ 4 wh HP.out (hl.below hZ (Nat.le_refl _)));have f0:=h3.c.c0;clear hl hb h3 hn';refine hK.out _ _ f0 (fun hHeld=>?_);clear hK K9;refine tkH 18 ?_ rfl ?_ ?_;rotate_left 1
  ·intro wz hwz;go_simp;all_goals with_reducible rfl
  simp only[Act.put,p1,p2,p3,p4,p5,p6];refine tkH 19 ?_ rfl ?_ ?_;rotate_left 1
  ·intro wz hwz;go_simp;all_goals with_reducible rfl
  simp only[Act.put,p1,p2,p3,p4,p5,p6];refine wpAnyH_ready (rs:= [20]) (by kernel_rfl) (by simp) (AllReadyH.cons rfl (fun K9 hK=>?_) AllReadyH.nil);go_simp;refine(HC.out _ (Below.refl _ _)).mono ?_;rintro e w4 ⟨rfl,K',bs',h4⟩;have H4:=hideIt h4;have g0:w4.cell? ⟨Bt,0,none⟩=some (.int .i64 (T1.p.n:Int)):=by
   have e:=h4.c.c0
   rwa [show ((T1.on T1.p.n).play ⟨11,T1.p.n,wh,0⟩).p.n=T1.p.n from play_n _ _] at e
  clear HC h4;refine hK.out _ _ g0 (fun hHeld=>?_);clear hK K9;refine wpAnyH_done (by kernel_rfl) ?_ _;go_wp2;exact bodyPost_ret (results_none rfl _ _ _) rfl ⟨rfl,K',bs',by rw[hB.out];exact H4.out⟩
 ·have hB:Hid (trouF T=(T1.on T1.p.k).play ⟨5,T1.t.below T1.p.k,0,0⟩):=HF;have HT1:=hideIt (fun Z hZ=>client_any (H1.out.below (W':=Z) hZ) (by omega) hk8);clear HF hu hu1 hn1 hn7;go_upto_region 1 with fail
  refine wp_region_held_drew (S:=fun Z=>Z.cell? ⟨Bt,8,none⟩=some (.pointer (some ⟨K.B,0,none⟩))) (by kernel_rfl) c8 (fun hHeld=>?_);refine tkH 0 ?_ rfl ?_ ?_;rotate_left 1
  ·intro wz hwz;go_simp;all_goals with_reducible rfl
  simp only[Act.put,p1,p2,p3,p4,p5];refine tkH 1 ?_ rfl ?_ ?_;rotate_left 1
  ·intro wz hwz;go_simp;all_goals with_reducible rfl
  simp only[Act.put,p1,p2,p3,p4,p5,p6];refine tkH 2 ?_ rfl ?_ ?_;rotate_left 1
  ·intro wz hwz;go_simp;all_goals with_reducible rfl
  simp only[Act.put,p1,p2,p3,p4,p5,p6];refine tkH 3 ?_ rfl ?_ ?_;rotate_left 1
  ·intro wz hwz;go_simp;all_goals with_reducible rfl
  simp only[Act.put,p1,p2,p3,p4,p5,p6];refine tkH 4 ?_ rfl ?_ ?_;rotate_left 1
  ·intro wz hwz;go_simp;all_goals with_reducible rfl
  simp only[Act.put,p1,p2,p3,p4,p5,p6];refine wpAnyH_ready (rs:= [5]) (by kernel_rfl) (by simp) (AllReadyH.cons rfl (fun K9 hK=>?_) AllReadyH.nil);go_simp;refine(HT1.out _ (Below.refl _ _).drew).mono ?_;rintro e w2 ⟨rfl,h2⟩;have HC:=hideIt (fun Z hZ=>give_call (h2.below (W':=Z) hZ) (show St.PInv (T1.on T1.p.k).p b from HI.out) (T1.t.below T1.p.k));have e8:=h2.c.c8;clear h2 HT1;refine hK.out _ _ e8 (fun hHeld=>?_);clear hK K9;refine wpAnyH_ready (rs:= [6]) (by kernel_rfl) (by simp) (AllReadyH.cons rfl (fun K9 hK=>?_) AllReadyH.nil);go_simp;refine(HC.out _ (Below.refl _ _)).mono ?_;rintro e w3 ⟨⟨x,rfl⟩,K',h3,hKB⟩;have H3:=hideIt h3;have g8:=h3.c.c8;rw[hKB] at g8;clear HC h3;refine hK.out _ _ g8 (fun hHeld=>?_);clear hK K9;refine wpAnyH_done (by kernel_rfl) ?_ _;go_wp2;exact bodyPost_ret (results_none rfl _ _ _) rfl ⟨rfl,K',bs,by rw[hB.out];exact H3.out⟩
set_option maxHeartbeats 8000000 in
theorem moveT_any (h:TrW w0 W Bt K v bs ti bud T) {b:Nat} (hI:St.PInv T.p b) (hg:T.begun≤40) (hu:T.t.u+3+Gn.wtF 20 T.g≤1000000000):Calls Tryz.prog 22 #[.pointer (some ⟨Bt,0,none⟩)] W (MvTold w0 Bt v ti bud (moveF T)):=by
 have HT0:=hideIt (h.tape (by omega) 10 (by decide));obtain⟨dlo,dhi⟩:=Gn.Tp.below_lt (t:=T.t) (n:=10) (by decide);have hu1:(T.on 10).t.u≤T.t.u+1:=by
  show (T.t.on 10).u≤_;unfold Gn.Tp.on;rw[if_neg (by decide)];exact Nat.le_refl _
 generalize hT1:T.on 10=T1 at*
 have hp:T1.p=T.p:=by rw[←hT1];rfl
 have hg1:T1.begun≤40:=by rw[←hT1];exact hg
 have hu2:T1.t.u+2+Gn.wtF 20 T1.g≤1000000000:=by
  have:T1.g=T.g:=by rw[←hT1];rfl
  rw[this];omega
 have hF:moveF T=(if T.t.below 10 < 3 then (begF (T1.on T1.p.k) (T1.t.below T1.p.k)).1 else if T.t.below 10 < 7 then mesF T1 2 else if T.t.below 10=7 then mesF T1 3 else if T.t.below 10=8 then mesF T1 4 else trouF T1):=by rw[←hT1];rfl
 generalize T.t.below 10=d at*
 have hI1:St.PInv T1.p b:=by rw[hp];exact hI
 have hk8:=hI1.k8;have hml:=hI1.ml;have HI:=hideIt hI1;have HF:=hideIt hF;clear h hI hI1 hF hp hT1 hu hu1 hg;go_enter Tryz.func22,Tryz.ntmps22
 go_wp2_with fail
 refine HT0.out.mono ?_;rintro e w1 ⟨rfl,h1⟩;have H1:=hideIt h1;have c8:=h1.c.c8;clear h1 HT0;by_cases h3:d < 3
 ·have hB:Hid (moveF T=(begF (T1.on T1.p.k) (T1.t.below T1.p.k)).1):=by
   show moveF T=_;rw[HF.out,if_pos h3]
  have hd:decide (d < 3)=true:=decide_eq_true h3;have HC:=hideIt (client_any H1.out (by omega) hk8);have hu3:(T1.on T1.p.k).t.u+Gn.wtF 20 (T1.on T1.p.k).g≤1000000000:=by
   have e:(T1.on T1.p.k).t.u≤T1.t.u+1:=by
    show (T1.t.on T1.p.k).u≤_;unfold Gn.Tp.on
    split
    ·omega
    ·exact Nat.le_refl _
   have e2:(T1.on T1.p.k).g=T1.g:=rfl;rw[e2];omega
  have HU:=hideIt hu3;clear HF hu2 hu3 hml;go_wp2_with fail
  refine HC.out.mono ?_;rintro e w2 ⟨rfl,h2⟩;have HD:=hideIt (beginT_any h2 (show St.PInv (T1.on T1.p.k).p b from HI.out) hg1 HU.out (T1.t.below T1.p.k));clear h2 HC;go_wp2_with fail
  refine HD.out.mono ?_;rintro e w3 ⟨rfl,K',bs',h4⟩;have H4:=hideIt h4;clear h4 HD;go_wp2;exact bodyPost_ret (results_none rfl _ _ _) rfl ⟨rfl,K',bs',by rw[hB.out];exact H4.out⟩
 have hd3:decide (d < 3)=false:=decide_eq_false h3;have HM:=hideIt (fun Z hZ=>message_any (H1.out.below (W':=Z) hZ) (by omega) hml);by_cases h7:d < 7
 ·have hB:Hid (moveF T=mesF T1 2):=by
   show moveF T=_;rw[HF.out,if_neg h3,if_pos h7]
  have hd7:decide (d < 7)=true:=decide_eq_true h7;clear HF hu2 hml;go_upto_region 5 with fail
  refine wp_region_held_drew (S:=fun Z=>Z.cell? ⟨Bt,8,none⟩=some (.pointer (some ⟨K.B,0,none⟩))) (by kernel_rfl) c8 (fun hHeld=>?_);refine tkH 0 ?_ rfl ?_ ?_;rotate_left 1
  ·intro wz hwz;go_simp;all_goals with_reducible rfl
  simp only[Act.put,p1,p2,p3,p4,p5];refine tkH 1 ?_ rfl ?_ ?_;rotate_left 1
  ·intro wz hwz;go_simp;all_goals with_reducible rfl
  simp only[Act.put,p1,p2,p3,p4,p5,p6];refine tkH 2 ?_ rfl ?_ ?_;rotate_left 1
  ·intro wz hwz;go_simp;all_goals with_reducible rfl
  simp only[Act.put,p1,p2,p3,p4,p5,p6];refine tkH 3 ?_ rfl ?_ ?_;rotate_left 1
  ·intro wz hwz;go_simp;all_goals with_reducible rfl
  simp only[Act.put,p1,p2,p3,p4,p5,p6];refine tkH 4 ?_ rfl ?_ ?_;rotate_left 1
  ·intro wz hwz;go_simp;all_goals with_reducible rfl
  simp only[Act.put,p1,p2,p3,p4,p5,p6];refine wpAnyH_ready (rs:= [5]) (by kernel_rfl) (by simp) (AllReadyH.cons rfl (fun K9 hK=>?_) AllReadyH.nil);go_simp;refine(HM.out _ (Below.refl _ _).drew).mono ?_;rintro e w2 ⟨rfl,h2⟩;have HD:=hideIt (fun Z hZ=>deli_call (h2.below (W':=Z) hZ) (show St.PInv (T1.on T1.p.mails.length).p b from HI.out) (T1.t.below T1.p.mails.length));have c8':=h2.c.c8;clear h2 HM;refine hK.out _ _ c8' (fun hHeld=>?_);clear hK K9;refine wpAnyH_ready (rs:= [6]) (by kernel_rfl) (by simp) (AllReadyH.cons rfl (fun K9 hK=>?_) AllReadyH.nil);go_simp;refine(HD.out _ (Below.refl _ _)).mono ?_;rintro e w3 ⟨⟨x,rfl⟩,K',h3,hKB⟩;have c8'':=h3.c.c8;rw[hKB] at c8'';have H3:=hideIt h3;clear h3 HD;refine hK.out _ _ c8'' (fun hHeld=>?_);clear hK K9;refine wpAnyH_done (by kernel_rfl) ?_ _;go_wp2;exact bodyPost_ret (results_none rfl _ _ _) rfl ⟨rfl,K',bs,by rw[hB.out];exact H3.out⟩
 have hd7:decide (d < 7)=false:=decide_eq_false h7;by_cases h8:d=7
 ·have hB:Hid (moveF T=mesF T1 3):=by
   show moveF T=_;rw[HF.out,if_neg h3,if_neg h7,if_pos h8]
  have hd8:(d==7)=true:=by simp[h8]
  clear HF hu2 hml h3 h7;subst h8;go_upto_region 7 with fail
  refine wp_region_held_drew (S:=fun Z=>Z.cell? ⟨Bt,8,none⟩=some (.pointer (some ⟨K.B,0,none⟩))) (by kernel_rfl) c8 (fun hHeld=>?_);refine tkH 0 ?_ rfl ?_ ?_;rotate_left 1
  ·intro wz hwz;go_simp;all_goals with_reducible rfl
  simp only[Act.put,p1,p2,p3,p4,p5];refine tkH 1 ?_ rfl ?_ ?_;rotate_left 1
  ·intro wz hwz;go_simp;all_goals with_reducible rfl
  simp only[Act.put,p1,p2,p3,p4,p5,p6];refine tkH 2 ?_ rfl ?_ ?_;rotate_left 1
  ·intro wz hwz;go_simp;all_goals with_reducible rfl
  simp only[Act.put,p1,p2,p3,p4,p5,p6];refine tkH 3 ?_ rfl ?_ ?_;rotate_left 1
  ·intro wz hwz;go_simp;all_goals with_reducible rfl
  simp only[Act.put,p1,p2,p3,p4,p5,p6];refine tkH 4 ?_ rfl ?_ ?_;rotate_left 1
  ·intro wz hwz;go_simp;all_goals with_reducible rfl
  simp only[Act.put,p1,p2,p3,p4,p5,p6];refine wpAnyH_ready (rs:= [5]) (by kernel_rfl) (by simp) (AllReadyH.cons rfl (fun K9 hK=>?_) AllReadyH.nil);go_simp;refine(HM.out _ (Below.refl _ _).drew).mono ?_;rintro e w2 ⟨rfl,h2⟩;have HD:=hideIt (fun Z hZ=>drop_call (h2.below (W':=Z) hZ) (show St.PInv (T1.on T1.p.mails.length).p b from HI.out) (T1.t.below T1.p.mails.length));have c8':=h2.c.c8;clear h2 HM;refine hK.out _ _ c8' (fun hHeld=>?_);clear hK K9;refine wpAnyH_ready (rs:= [6]) (by kernel_rfl) (by simp) (AllReadyH.cons rfl (fun K9 hK=>?_) AllReadyH.nil);go_simp;refine(HD.out _ (Below.refl _ _)).mono ?_;rintro e w3 ⟨⟨x,rfl⟩,K',h3,hKB⟩;have c8'':=h3.c.c8;rw[hKB] at c8'';have H3:=hideIt h3;clear h3 HD;refine hK.out _ _ c8'' (fun hHeld=>?_);clear hK K9;refine wpAnyH_done (by kernel_rfl) ?_ _;go_wp2;exact bodyPost_ret (results_none rfl _ _ _) rfl ⟨rfl,K',bs,by rw[hB.out];exact H3.out⟩
 have hd8:(d==7)=false:=by simp[h8]
 by_cases h9:d=8
 ·have hB:Hid (moveF T=mesF T1 4):=by
   show moveF T=_;rw[HF.out,if_neg h3,if_neg h7,if_neg h8,if_pos h9]
  clear HF hu2 hml h3 h7;subst h9;go_upto_region 9 with fail
  refine wp_region_held_drew (S:=fun Z=>Z.cell? ⟨Bt,8,none⟩=some (.pointer (some ⟨K.B,0,none⟩))) (by kernel_rfl) c8 (fun hHeld=>?_);refine tkH 0 ?_ rfl ?_ ?_;rotate_left 1
  ·intro wz hwz;go_simp;all_goals with_reducible rfl
  simp only[Act.put,p1,p2,p3,p4,p5];refine tkH 1 ?_ rfl ?_ ?_;rotate_left 1
  ·intro wz hwz;go_simp;all_goals with_reducible rfl
  simp only[Act.put,p1,p2,p3,p4,p5,p6];refine tkH 2 ?_ rfl ?_ ?_;rotate_left 1
  ·intro wz hwz;go_simp;all_goals with_reducible rfl
  simp only[Act.put,p1,p2,p3,p4,p5,p6];refine tkH 3 ?_ rfl ?_ ?_;rotate_left 1
  ·intro wz hwz;go_simp;all_goals with_reducible rfl
  simp only[Act.put,p1,p2,p3,p4,p5,p6];refine tkH 4 ?_ rfl ?_ ?_;rotate_left 1
  ·intro wz hwz;go_simp;all_goals with_reducible rfl
  simp only[Act.put,p1,p2,p3,p4,p5,p6];refine wpAnyH_ready (rs:= [5]) (by kernel_rfl) (by simp) (AllReadyH.cons rfl (fun K9 hK=>?_) AllReadyH.nil);go_simp;refine(HM.out _ (Below.refl _ _).drew).mono ?_;rintro e w2 ⟨rfl,h2⟩;have HD:=hideIt (fun Z hZ=>doub_call (h2.below (W':=Z) hZ) (show St.PInv (T1.on T1.p.mails.length).p b from HI.out) (T1.t.below T1.p.mails.length));have c8':=h2.c.c8;clear h2 HM;refine hK.out _ _ c8' (fun hHeld=>?_);clear hK K9;refine wpAnyH_ready (rs:= [6]) (by kernel_rfl) (by simp) (AllReadyH.cons rfl (fun K9 hK=>?_) AllReadyH.nil);go_simp;refine(HD.out _ (Below.refl _ _)).mono ?_;rintro e w3 ⟨⟨x,rfl⟩,K',h3,hKB⟩;have c8'':=h3.c.c8;rw[hKB] at c8'';have H3:=hideIt h3;clear h3 HD;refine hK.out _ _ c8'' (fun hHeld=>?_);clear hK K9;refine wpAnyH_done (by kernel_rfl) ?_ _;go_wp2;exact bodyPost_ret (results_none rfl _ _ _) rfl ⟨rfl,K',bs,by rw[hB.out];exact H3.out⟩
 have hB:Hid (moveF T=trouF T1):=by
   show moveF T=_;rw[HF.out,if_neg h3,if_neg h7,if_neg h8,if_neg h9]
 obtain rfl:d=9:=by omega
 have HC:=hideIt (trouT_any H1.out HI.out (by omega));clear HF hu2 hml h3 h7 HM;go_wp2_with fail
 refine HC.out.mono ?_;rintro e w3 ⟨rfl,K',bs',h4⟩;have H4:=hideIt h4;clear h4 HC;go_wp2;exact bodyPost_ret (results_none rfl _ _ _) rfl ⟨rfl,K',bs',by rw[hB.out];exact H4.out⟩
end
end Go.Proofs.YtjpklmighoondaaGreatDoor.Fa
