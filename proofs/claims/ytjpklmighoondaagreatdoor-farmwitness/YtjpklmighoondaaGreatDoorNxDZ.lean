/-
  What next gives: one behind the other; and all generators.
  A plan that is tried, in memory: its own block, the store, the generator, the tape.
  A plan that is tried, walked: client, message, cut.
-/
import Derived.Test.YtjpklmighoondaaGreatDoorNxC
import Derived.Test.YtjpklmighoondaaGreatDoorGpRZ
import Derived.Test.YtjpklmighoondaaGreatDoorSwOZ
import Derived.Test.YtjpklmighoondaaGreatDoorSwHZ
import Derived.Test.YtjpklmighoondaaGreatDoorSwL
import Derived.Test.YtjpklmighoondaaGreatDoorMnZ
import Derived.Test.YtjpklmighoondaaGreatDoorSwMZ
import Derived.Deep.RegionHeld3
namespace Go.Proofs.YtjpklmighoondaaGreatDoor.Gn
open Go.RowKit Go.Shelf
theorem thnF_some {nx:Gt→Tp→Gv} {g:Gt} {l:List Gt} {t:Tp} {c:Cl} (h:(nx g t).c=some c):thnF nx (g::l) t=⟨some c,.thn ((nx g t).g::l),(nx g t).t⟩:=by
 simp only[thnF];rw[h]
theorem thnF_none {nx:Gt→Tp→Gv} {g:Gt} {l:List Gt} {t:Tp} (h:(nx g t).c=none):thnF nx (g::l) t=thnF nx l (nx g t).t:=by
 simp only[thnF];rw[h]
structure ThnI (n base B o b : Nat) (t0 : Tp) (w : World) (l0 : List Gt) (bs0 : List Nat) (wx : World) (l : List Gt) (t : Tp) (bs : List Nat) : Prop where
 gen:GAt (n+1) wx base (.iface 192 (.pointer (some ⟨b,0,none⟩))) (.thn l) bs
 sub:∀x∈bs,x∈bs0
 tp:TpAt wx base B o t
 use:t.u+wtF (n+1) (.thn l)≤1000000000
 fr:Fr (B::bs0) w wx
 oth:∀p:Addr,p.block=B→p≠⟨B,o+1,none⟩→wx.cell? p=w.cell? p∧wx.frozen? p=w.frozen? p
 res:wx.heap[w.heap.size]?=some (.cells #[.bool false,.int .i64 0,.int .i64 0] 195)
 nx:nextF (n+1) (.thn l0) t0=thnF (nextF n) l t
set_option maxHeartbeats 8000000 in
set_option maxRecDepth 100000 in
theorem then_next {n:Nat} (ih:AllNx n) (base B o b:Nat) (t0:Tp) (w:World) (l0:List Gt) (bs0:List Nat) (h:GAt (n+1) w base (.iface 192 (.pointer (some ⟨b,0,none⟩))) (.thn l0) bs0) (ht:TpAt w base B o t0) (hB:B∉bs0) (hu:t0.u+wtF (n+1) (.thn l0)≤1000000000):
  Calls Tryz.prog 319 #[.pointer (some ⟨b,0,none⟩),.pointer (some ⟨B,o,none⟩)] w (NxTold (n+1) base B o t0 w (.iface 192 (.pointer (some ⟨b,0,none⟩))) (.thn l0) bs0):=by
 have hfr:∀X,Fr X w (w.alloc (.cells #[.bool false,.int .i64 0,.int .i64 0] 195)):=fun X=>Fr.alloc _ _ _
 have HI:Hid (ThnI n base B o b t0 w l0 bs0 (w.alloc (.cells #[.bool false,.int .i64 0,.int .i64 0] 195)) l0 t0 bs0):=
  ⟨h.fr (hfr []) (by simp),fun _ hx=>hx,ht.fr (hfr []) (by simp) (by simp),hu,hfr _,fun p hp _=>oth_of (hfr []) ht.lt (by simp) p hp,heap_new _ _,by rw[nextF]⟩
 have hBlt:=ht.lt;have hlo:=ht.lo;have hb0:∀x∈bs0,base≤x∧x < w.heap.size:=fun x hx=>h.in_ x hx
 have HB0:=hideIt hb0;have HBn:=hideIt hB;clear h ht hb0 hfr hB hu;go_enter Tryz.func319,Tryz.ntmps319
 go_wp2
 go_loopg [6,7] l0.length (fun g _ _ wx=>∃l t bs,g=l.length∧ThnI n base B o b t0 w l0 bs0 wx l t bs)
 case atStart=>exact⟨l0,t0,bs0,rfl,HI.out⟩
 case round=>
  obtain⟨l,t,bs,hg,hI⟩:=hrel;have HM:=hideIt hI;obtain⟨⟨b',r,g,us,cs,e1,rfl,h2,h3,h4,h5,h6,h7,⟨off,cap,rfl,r2,r3,r4,r5,r6⟩,h9,h10⟩,hsub,htp,huse,hfr,hoth,hres,hnx⟩:=hI;cases e1;have hblt:b < wr.heap.size:=World.block_lt_of_cell? wr _ h6;have hzz:=hfr.size;have hwr:w.heap.size < wr.heap.size:=(Array.getElem?_eq_some_iff.1 hres).1;cases h10 with
  | nil=>
   obtain⟨z0,z1,z2⟩:=blk3 hres;have f0:=frozen_of_row wr w.heap.size 0 _ 195 hres;have f1:=frozen_of_row wr w.heap.size 1 _ 195 hres;have f2:=frozen_of_row wr w.heap.size 2 _ 195 hres;clear hfr hoth hres hnx huse htp hsub r6;simp only[List.length_nil] at h6;go_wp2;change bodyPost _ _ _ _ _ (set3 wr w.heap.size (.bool false) (.int .i64 0) (.int .i64 0));refine bodyPost_ret (results_two rfl _ _ _ _ rfl (load_set3 z0 z1 z2)) rfl ?_;exact(told_set3 (ok:=false) HM.out.nx rfl rfl HM.out.fr HM.out.oth HM.out.tp HM.out.gen HM.out.sub HB0.out hBlt)
  | @cons u g1 ds us l cs hP hs ha=>
   obtain⟨T,x,F,hMt⟩:=met_of hP;have hsh:=hMt.shape;subst hsh;have hnil:=hMt.nil;have hmet:=hMt.met;have hent:=hMt.ent;have hul:us.length=l.length:=hs.len;have hgt:(0:Int) < ((us.length+1:Nat):Int):=by omega
   have hux:wr.cell? ⟨g,off,none⟩=some (.iface T x):=r6 0 (by simp);have HR6:=hideIt r6;have HU:Hid (wtF n g1+wtF (n+1) (.thn l)=wtF (n+1) (.thn (g1::l))):=hideIt (by simp[wtF]);have HP:=hideIt hP;have HRest:=hideIt hs;have HA:=hideIt ha;have HMt:=hideIt hMt;have hBn:=HBn.out;have hbs0:b∈bs0:=HM.out.sub b (by simp);have hgs0:g∈bs0:=HM.out.sub g (by simp);have hBb:B≠b:=fun e=>hBn (e▸hbs0)
   have hBg:B≠g:=fun e=>hBn (e▸hgs0)
   have hBd:B∉ds:=fun e=>hBn (HM.out.sub B (by simp[e]))
   have hT1:=HM.out.tp;have hbon:t.u+wtF n g1≤1000000000:=by have:=HU.out;omega
   have hglt:g < wr.heap.size:=r5;simp only[List.length_cons] at h6 r2;clear hP hs ha hMt hfr hoth hres hnx htp hsub r6;have HT1:=hideIt hT1;clear hT1;go_wp2_with fail
   refine(ih base B o t wr _ g1 ds HP.out HT1.out hBd hbon T x F HMt.out).mono ?_;rintro y W2 ⟨rfl,hT2,⟨ds',hG2,hds'⟩,hF2,hO2⟩;have hnu:=nextF_use n g1 t;obtain⟨q,kk,vv,hcl⟩:=clV_form (nextF n g1 t).c;have hno:∀y,y∈bs0→y∉ds→y∉B::ds:=fun y hy hn e=>by
    rcases List.mem_cons.1 e with e | e
    ·exact hBn (e▸hy)
    ·exact hn e
   have hbd:b∉ds:=fun e=>h4 (by simp[e])
   have hgd:g∉ds:=fun e=>h5 (by simp[e])
   have hk2:W2.heap[b]?=wr.heap[b]?:=hF2.block b (by omega) (hno b hbs0 hbd);have hkg2:W2.heap[g]?=wr.heap[g]?:=hF2.block g (by omega) (hno g hgs0 hgd);have b0:=(World.cell?_of_block (a:=⟨b,0,none⟩) hk2).trans h6;have b2:=(World.frozen?_of_block (a:=⟨b,0,none⟩) hk2).trans h7;have HR2c:Hid (∀j,(h:j < us.length)→W2.cell? ⟨g,off+1+j,none⟩=some us[j]):=fun j hj=>by
    have:=HR6.out (j+1) (by simp;omega);rw[show off+1+j=off+(j+1) by omega];exact(World.cell?_of_block (a:=⟨g,off+(j+1),none⟩) hkg2).trans (by simpa using this)
   have HR2z:Hid (W2.cell? ⟨g,off,none⟩=some (.iface T x)):=(World.cell?_of_block (a:=⟨g,off,none⟩) hkg2).trans hux;have hs2:=hF2.size;have hw1:w.heap.size∉B::ds:=fun e=>by
    rcases List.mem_cons.1 e with e | e
    ·omega
    ·have:=(HB0.out _ (HM.out.sub w.heap.size (by simp[e]))).2;omega
   have hr2:=(hF2.block w.heap.size (by omega) hw1).trans HM.out.res;obtain⟨z0,z1,z2⟩:=blk3 hr2;have f0:=frozen_of_row W2 w.heap.size 0 _ 195 hr2;have f1:=frozen_of_row W2 w.heap.size 1 _ 195 hr2;have f2:=frozen_of_row W2 w.heap.size 2 _ 195 hr2;have HR2:=hideIt hr2;have nb:b < W2.heap.size:=by omega
   have nb1:¬b=W2.heap.size:=by omega
   have nb2:¬W2.heap.size=b:=by omega
   have nw:w.heap.size < W2.heap.size:=by omega
   have nw1:¬w.heap.size=W2.heap.size:=by omega
   have nw2:¬W2.heap.size=w.heap.size:=by omega
   have nbw:¬b=w.heap.size:=fun e=>by have:=(HB0.out _ hbs0).2;omega
   have nbw2:¬w.heap.size=b:=fun e=>nbw e.symm
   have HG2:=hideIt hG2;have HT2:=hideIt hT2;have HF2:=hideIt hF2;have HO2:=hideIt hO2;have HCl:=hideIt hcl;have HDs':=hideIt hds';unfold clV;rw[hcl];generalize hok:(nextF n g1 t).c.isSome=ok;have HOk:=hideIt hok;have HF02:Hid (Fr (B::bs0) w W2):=HM.out.fr.trans (HF2.out.more (fun y hy=>.inl (by rcases List.mem_cons.1 hy with h | h;simp[h];simp[HM.out.sub y (by simp[h])])));have HO02:Hid (∀p:Addr,p.block=B→p≠⟨B,o+1,none⟩→W2.cell? p=w.cell? p∧W2.frozen? p=w.frozen? p):=fun p hp hq=>by
    obtain⟨x1,x2⟩:=HO2.out p hp hq;obtain⟨v1,v2⟩:=HM.out.oth p hp hq;exact⟨x1.trans v1,x2.trans v2⟩
   have HRest2:Hid (Parts (GAt n W2 base) us l cs):=HRest.out.mono fun v g xs has hp=>hp.low (fun y hy=>by
    have hyb:=HM.out.sub y (by simp[has y hy]);exact HF2.out.block y (hp.in_ y hy).2 (hno y hyb (fun e=>HA.out y e (has y hy)))) (by omega)
   have hbc:b∉cs:=fun e=>h4 (by simp[e])
   have hgc:g∉cs:=fun e=>h5 (by simp[e])
   clear hG2 hT2 hF2 hO2 hcl hds' hk2 hkg2 h6 h7 hok hux hr2;cases ok
   ·have hnone:(nextF n g1 t).c=none:=by have:=HOk.out;cases h:(nextF n g1 t).c with
     | none=>rfl
     | some c=>rw[h] at this;cases this
    have HNx:Hid (nextF (n+1) (.thn l0) t0=thnF (nextF n) l (nextF n g1 t).t):=hideIt (by rw[HM.out.nx,thnF_none hnone]);have HFin:Hid (∀(off' cap':Nat) (ob:Obj),(∀j,(h:j < us.length)→W2.cell? ⟨g,off'+j,none⟩=some us[j])→us.length≤cap'→cap'≤maxLen→∃l1 t1 bs1,l.length=l1.length∧ThnI n base B o b t0 w l0 bs0 ((W2.setCell ⟨b,0,none⟩ (.slice (some ⟨g,off',none⟩) l.length cap')).alloc ob) l1 t1 bs1):=by
     intro off' cap' ob hce hc1 hc2;have hF5:Fr [b] W2 ((W2.setCell ⟨b,0,none⟩ (.slice (some ⟨g,off',none⟩) l.length cap')).alloc ob):=(Fr.set W2 ⟨b,0,none⟩ _ (by simp)).trans (Fr.alloc _ _ _);have d0:((W2.setCell ⟨b,0,none⟩ (.slice (some ⟨g,off',none⟩) l.length cap')).alloc ob).cell? ⟨b,0,none⟩=some (.slice (some ⟨g,off',none⟩) l.length cap'):=(World.cell?_alloc_lt _ _ _ (by simpa [World.setCell] using nb)).trans (World.cell?_setCell_same' _ _ _ (by rw[b0];rfl));have d2:((W2.setCell ⟨b,0,none⟩ (.slice (some ⟨g,off',none⟩) l.length cap')).alloc ob).frozen? ⟨b,0,none⟩=false:=by
      rw[World.frozen?_alloc_old _ _ _ (by simpa [World.setCell] using nb1),frozen_setCell];exact b2
     have hgW:g < W2.heap.size:=by omega
     have hsb:∀y∈cs,y∈bs0:=fun y hy=>HM.out.sub y (by simp[hy])
     refine⟨l,(nextF n g1 t).t,b::g::cs,rfl,?_,?_,?_,?_,?_,?_,?_,HNx.out⟩
     ·refine⟨b,_,g,us,cs,rfl,rfl,h2,h3,hbc,hgc,d0,d2,⟨off',cap',by rw[hul],hc1,hc2,r4,Nat.lt_of_lt_of_le hgW hF5.size,fun j hj=>?_⟩,?_,?_⟩
      ·exact(World.cell?_of_block (a:=⟨g,off'+j,none⟩) (hF5.block g hgW (by simp;exact Ne.symm h3))).trans (hce j hj)
      ·simp at h9;omega
      ·exact HRest2.out.mono fun v gg xs hxs hp=>hp.fr hF5 (fun y hy e=>by simp at e;exact hbc (e▸hxs y hy))
     ·intro y hy;rcases List.mem_cons.1 hy with h | hy
      ·rw[h];exact hbs0
      rcases List.mem_cons.1 hy with h | hy
      ·rw[h];exact hgs0
      ·exact hsb y hy
     ·exact HT2.out.fr hF5 (by simp[hBb]) (by simp[h2])
     ·have:=HU.out;omega
     ·exact HF02.out.trans (hF5.more (by simp[hbs0]))
     ·intro p hp hq;obtain⟨x1,x2⟩:=oth_of hF5 (by omega) (by simp[hBb]) p hp;obtain⟨y1,y2⟩:=HO02.out p hp hq;exact⟨x1.trans y1,x2.trans y2⟩
     ·exact(hF5.block _ nw (by simp[nbw2])).trans HR2.out
    have hgk:gk=l.length+1:=by simpa using hg
    by_cases hcap:cap=1
    ·have hl0:us.length=0:=by omega
     subst hcap;go_wp2
     go_roundg l.length
     case measure=>omega
     case rel=>exact HFin.out off 0 _ (fun j hj=>by omega) (by omega) (by unfold maxLen;omega)
    ·have hcc:¬cap=0+1:=by omega
     go_wp2
     go_roundg l.length
     case measure=>omega
     case rel=>exact HFin.out (off+1) (cap - 1) _ HR2c.out (by omega) (by omega)
   ·go_wp2;change bodyPost _ _ _ _ _ ((set3 W2 w.heap.size (.bool q) (.int .i64 kk) (.int .i64 vv)).alloc _);refine bodyPost_ret (results_two rfl _ _ _ _ rfl (load_set3A _ z0 z1 z2)) rfl ?_;cases hc:(nextF n g1 t).c with
    | none=>have:=HOk.out;rw[hc] at this;cases this
    | some c=>
     have hcl2:=HCl.out;rw[hc] at hcl2;refine(told_set3 (ok:=true) (bs:=b::g::(ds'++cs)) (HM.out.nx.trans (thnF_some hc)) hcl2 rfl HF02.out HO02.out HT2.out ?_ ?_ HB0.out hBlt).alloc hBlt _
     ·refine⟨b,_,g,.iface T x::us,ds'++cs,rfl,rfl,h2,h3,fun e=>?_,fun e=>?_,b0,b2,⟨off,cap,rfl,r2,r3,r4,by omega,fun j hj=>?_⟩,by simpa using h9,.cons HG2.out HRest2.out (fun y hy=>HA.out y (HDs'.out y hy))⟩
      ·rcases List.mem_append.1 e with e | e
       ·exact hbd (HDs'.out _ e)
       ·exact hbc e
      ·rcases List.mem_append.1 e with e | e
       ·exact hgd (HDs'.out _ e)
       ·exact hgc e
      ·cases j with
       | zero=>exact HR2z.out
       | succ j=>rw[show off+(j+1)=off+1+j by omega];simpa using HR2c.out j (by simpa using hj)
     ·intro y hy;rcases List.mem_cons.1 hy with h | hy
      ·rw[h];exact hbs0
      rcases List.mem_cons.1 hy with h | hy
      ·rw[h];exact hgs0
      ·rcases List.mem_append.1 hy with e | e
       ·exact HM.out.sub y (by simp[HDs'.out y e])
       ·exact HM.out.sub y (by simp[e])
theorem allNx:∀n,AllNx n
 | 0=>fun _ _ _ _ _ _ _ _ h=>h.elim
 | n+1=>by
  intro base B o t w v g bs h ht hB hu T x F hM;have ih:=allNx n;cases g with
  | rd k=>
   obtain⟨rfl,rfl⟩:=h;obtain⟨rfl,rfl,rfl⟩:=(MetOk.mk rfl (nil_rd _) (met_rd _) ent_rd).one hM;exact read_next n base B o k t w ht
  | wr k lo hi=>
   obtain⟨rfl,rfl,h1,h2,h3⟩:=h;obtain⟨rfl,rfl,rfl⟩:=(MetOk.mk rfl (nil_wr _ _ _) (met_wr _ _ _) ent_wr).one hM;exact write_next n base B o k lo hi t w ht (by simp[wtF] at hu;omega) h1 h2 h3
  | lim g left=>
   obtain⟨b,u,cs,rfl,rest⟩:=id h;obtain⟨rfl,rfl,rfl⟩:=(MetOk.mk rfl (nil_lim _) (met_lim _) ent_lim).one hM;exact limit_next ih base B o b t w g left bs h ht hB (by simpa [wtF] using hu)
  | mix l=>
   obtain⟨b,g,cap,us,cs,rfl,rest⟩:=id h;obtain⟨rfl,rfl,rfl⟩:=(MetOk.mk rfl (nil_mix _) (met_mix _) ent_mix).one hM;exact mix_next ih base B o b t w l bs h ht hB hu
  | thn l=>
   obtain⟨b,r,g,us,cs,rfl,rest⟩:=id h;obtain⟨rfl,rfl,rfl⟩:=(MetOk.mk rfl (nil_thn _) (met_thn _) ent_thn).one hM;exact then_next ih base B o b t w l bs h ht hB hu
end Go.Proofs.YtjpklmighoondaaGreatDoor.Gn
namespace Go.Proofs.YtjpklmighoondaaGreatDoor.Fa
open Go.RowKit
theorem tgD_tagD (o:Option Obj):Gn.tgD o=St.tagD o:=by cases o with
 | none=>rfl
 | some x=>cases x<;>rfl
structure TrC (W : World) (Bt : Nat) (P : St.Pst) (K : St.StK) (v : Value) (ti : ByteArray) (bud : Int) (begun : Nat) (over : Bool) : Prop where
 c0:W.cell? ⟨Bt,0,none⟩=some (.int .i64 (P.n:Int))
 c1:W.cell? ⟨Bt,1,none⟩=some (.int .i64 (P.k:Int))
 c5:W.cell? ⟨Bt,5,none⟩=some (.string ti)
 c7:W.cell? ⟨Bt,7,none⟩=some (.int .i64 bud)
 c8:W.cell? ⟨Bt,8,none⟩=some (.pointer (some ⟨K.B,0,none⟩))
 c9:W.cell? ⟨Bt,9,none⟩=some v
 c12:W.cell? ⟨Bt,12,none⟩=some (.int .i64 (begun:Int))
 c13:W.cell? ⟨Bt,13,none⟩=some (.bool over)
 f12:W.frozen? ⟨Bt,12,none⟩=false
 f13:W.frozen? ⟨Bt,13,none⟩=false
section
variable {w0 W W' : World} {Bt : Nat} {P : St.Pst} {K K' : St.StK} {v : Value} {bs bs' : List Nat} {ti : ByteArray} {bud : Int} {begun : Nat} {over : Bool} {T : Trl}
theorem TrC.oth (h:TrC W Bt P K v ti bud begun over) (ho:∀p:Addr,p.block=Bt→p≠⟨Bt,11,none⟩→W'.cell? p=W.cell? p∧W'.frozen? p=W.frozen? p):TrC W' Bt P K v ti bud begun over:=by
 have hc:=fun i (hi:i≠11)=>ho ⟨Bt,i,none⟩ rfl (fun e=>hi (by injection e))
 exact⟨(hc 0 (by decide)).1.trans h.c0,(hc 1 (by decide)).1.trans h.c1,(hc 5 (by decide)).1.trans h.c5,(hc 7 (by decide)).1.trans h.c7,(hc 8 (by decide)).1.trans h.c8,(hc 9 (by decide)).1.trans h.c9,(hc 12 (by decide)).1.trans h.c12,(hc 13 (by decide)).1.trans h.c13,(hc 12 (by decide)).2.trans h.f12,(hc 13 (by decide)).2.trans h.f13⟩
theorem TrC.block (h:TrC W Bt P K v ti bud begun over) (hb:W'.heap[Bt]?=W.heap[Bt]?):TrC W' Bt P K v ti bud begun over:=
 h.oth fun p hp _=>⟨World.cell?_of_block (by rw[hp];exact hb),World.frozen?_of_block (by rw[hp];exact hb)⟩
structure TrW (w0 W : World) (Bt : Nat) (K : St.StK) (v : Value) (bs : List Nat) (ti : ByteArray) (bud : Int) (T : Trl) : Prop where
 st:St.StoP w0 W K T.p
 tp:Gn.TpAt W w0.heap.size Bt 10 T.t
 gn:Gn.GAt 20 W w0.heap.size v T.g bs
 Bn:Bt∉bs
 c:TrC W Bt T.p K v ti bud T.begun T.over
 dj:∀b,b=Bt∨b∈bs→¬K.own T.p.k b∧¬St.LTg W b
theorem TrW.lt (h:TrW w0 W Bt K v bs ti bud T):Bt < W.heap.size:=h.tp.lt
theorem TrW.lo (h:TrW w0 W Bt K v bs ti bud T) {b:Nat} (hb:b∈Bt::bs):w0.heap.size≤b∧b < W.heap.size:=by
 rcases List.mem_cons.1 hb with rfl | hb
 ·exact⟨h.tp.lo,h.lt⟩
 ·exact h.gn.in_ b hb
theorem TrW.fr (h:TrW w0 W Bt K v bs ti bud T) (hf:Gn.Fr (Bt::bs) W W') {g:Gn.Gt} {t:Gn.Tp} (ht:Gn.TpAt W' w0.heap.size Bt 10 t) (hg:Gn.GAt 20 W' w0.heap.size v g bs') (hs:∀b∈bs',b∈bs) (hc:TrC W' Bt T.p K v ti bud begun over):
  TrW w0 W' Bt K v bs' ti bud {T with g:=g,t:=t,begun:=begun,over:=over} :=by
 have hB:Below w0.heap.size w0 W':=h.st.bel.trans (hf.below (base:=w0.heap.size) h.st.bel.size fun x hx=>(h.lo hx).1);refine⟨h.st.keep hB (fun b hb=>hf.block b (h.st.own_lt hb).2 fun hx=>(h.dj b (List.mem_cons.1 hx)).1 hb) (fun b hb=>hf.block b hb.lt fun hx=>(h.dj b (List.mem_cons.1 hx)).2 hb),ht,hg,fun e=>h.Bn (hs _ e),hc,fun b hb=>?_⟩;have hb':b=Bt∨b∈bs:=hb.imp id (hs b);obtain⟨d1,d2⟩:=h.dj b hb';refine⟨d1,fun hl=>d2 ?_⟩;have e:=hf.tag b (h.lo (List.mem_cons.2 hb')).2;rw[tgD_tagD,tgD_tagD] at e;unfold St.LTg at hl ⊢;rw[←e];exact hl
theorem TrW.next (h:TrW w0 W Bt K v bs ti bud T) {e:Ending} (hN:Gn.NxTold 20 w0.heap.size Bt 10 T.t W v T.g bs e W'):∃bs',TrW w0 W' Bt K v bs' ti bud T.asked∧∀b∈bs',b∈bs:=by
 obtain⟨bs',hg,hs⟩:=hN.gen;exact⟨bs',h.fr (begun:=T.begun) (over:=T.over) hN.fr hN.tp hg hs (h.c.oth hN.oth),hs⟩
theorem TrW.turn (h:TrW w0 W Bt K v bs ti bud T) (n:Int) (k:Nat):TrW w0 (Gn.tpTurn (W.drewN k) Bt 10 T.t n) Bt K v bs ti bud (T.on n):=by
 have hf:=Gn.Fr.turn W Bt 10 T.t n k;have hf2:Gn.Fr (Bt::bs) W (Gn.tpTurn (W.drewN k) Bt 10 T.t n):=hf.more fun x hx=>.inl (by simp at hx;simp[hx])
 refine h.fr (begun:=T.begun) (over:=T.over) hf2 (h.tp.turn n k) (h.gn.low (fun b hb=>hf.block b (h.gn.in_ b hb).2 fun hx=>h.Bn (by simp at hx;rw[←hx];exact hb)) hf.size) (fun _ hb=>hb) (h.c.oth fun p hp hne=>?_);obtain⟨e1,e2⟩:=Gn.tpTurn_oth (W.drewN k) Bt 10 T.t n p hne;exact⟨e1.trans rfl,e2.trans rfl⟩
theorem TrW.set13 (h:TrW w0 W Bt K v bs ti bud T) (o:Bool):TrW w0 (W.setCell ⟨Bt,13,none⟩ (.bool o)) Bt K v bs ti bud {T with over:=o} :=by
 have hf:Gn.Fr (Bt::bs) W (W.setCell ⟨Bt,13,none⟩ (.bool o)):=Gn.Fr.set W _ _ (by simp);have hc:∀i,i≠13→(W.setCell ⟨Bt,13,none⟩ (.bool o)).cell? ⟨Bt,i,none⟩=W.cell? ⟨Bt,i,none⟩:=fun i hi=>World.cell?_setCell_other _ _ _ _ fun e=>hi (by injection e with _ e;exact e.symm)
 have hz:∀i,(W.setCell ⟨Bt,13,none⟩ (.bool o)).frozen? ⟨Bt,i,none⟩=W.frozen? ⟨Bt,i,none⟩:=fun i=>Gn.frozen_setCell _ _ _ _
 have hB:∀b∈bs,(W.setCell ⟨Bt,13,none⟩ (.bool o)).heap[b]?=W.heap[b]?:=fun b hb=>Below.heap_setCell W _ _ b fun e=>h.Bn (by have e':b=Bt:=e;rw[←e'];exact hb)
 refine h.fr (begun:=T.begun) (over:=o) hf ?_ (h.gn.low hB hf.size) (fun _ hb=>hb) ⟨(hc 0 (by decide)).trans h.c.c0,(hc 1 (by decide)).trans h.c.c1,(hc 5 (by decide)).trans h.c.c5,(hc 7 (by decide)).trans h.c.c7,(hc 8 (by decide)).trans h.c.c8,(hc 9 (by decide)).trans h.c.c9,(hc 12 (by decide)).trans h.c.c12,World.cell?_setCell_same' _ _ _ (by rw[h.c.c13];rfl),(hz 12).trans h.c.f12,(hz 13).trans h.c.f13⟩;obtain⟨⟨a,cap,r0,r1,r2⟩,r3,r4,r5⟩:=h.tp;refine⟨⟨a,cap,(hc 10 (by decide)).trans r0,r1,r2.imp id fun⟨b,off,e,hb,hx⟩=>⟨b,off,e,hb,fun i hi=>?_⟩⟩,(hc 11 (by decide)).trans r3,(hz 11).trans r4,r5⟩;exact(World.cell?_of_block (a:=⟨b,off+i,none⟩) (Below.heap_setCell W _ _ b (by show b≠Bt;omega))).trans (hx i hi)
theorem TrW.set12 (h:TrW w0 W Bt K v bs ti bud T) (m:Nat):TrW w0 (W.setCell ⟨Bt,12,none⟩ (.int .i64 (m:Int))) Bt K v bs ti bud {T with begun:=m} :=by
 have hf:Gn.Fr (Bt::bs) W (W.setCell ⟨Bt,12,none⟩ (.int .i64 (m:Int))):=Gn.Fr.set W _ _ (by simp);have hc:∀i,i≠12→(W.setCell ⟨Bt,12,none⟩ (.int .i64 (m:Int))).cell? ⟨Bt,i,none⟩=W.cell? ⟨Bt,i,none⟩:=fun i hi=>World.cell?_setCell_other _ _ _ _ fun e=>hi (by injection e with _ e;exact e.symm)
 have hz:∀i,(W.setCell ⟨Bt,12,none⟩ (.int .i64 (m:Int))).frozen? ⟨Bt,i,none⟩=W.frozen? ⟨Bt,i,none⟩:=fun i=>Gn.frozen_setCell _ _ _ _
 have hB:∀b∈bs,(W.setCell ⟨Bt,12,none⟩ (.int .i64 (m:Int))).heap[b]?=W.heap[b]?:=fun b hb=>Below.heap_setCell W _ _ b fun e=>h.Bn (by have e':b=Bt:=e;rw[←e'];exact hb)
 refine h.fr (begun:=m) (over:=T.over) hf ?_ (h.gn.low hB hf.size) (fun _ hb=>hb) ⟨(hc 0 (by decide)).trans h.c.c0,(hc 1 (by decide)).trans h.c.c1,(hc 5 (by decide)).trans h.c.c5,(hc 7 (by decide)).trans h.c.c7,(hc 8 (by decide)).trans h.c.c8,(hc 9 (by decide)).trans h.c.c9,World.cell?_setCell_same' _ _ _ (by rw[h.c.c12];rfl),(hc 13 (by decide)).trans h.c.c13,(hz 12).trans h.c.f12,(hz 13).trans h.c.f13⟩;obtain⟨⟨a,cap,r0,r1,r2⟩,r3,r4,r5⟩:=h.tp;refine⟨⟨a,cap,(hc 10 (by decide)).trans r0,r1,r2.imp id fun⟨b,off,e,hb,hx⟩=>⟨b,off,e,hb,fun i hi=>?_⟩⟩,(hc 11 (by decide)).trans r3,(hz 11).trans r4,r5⟩;exact(World.cell?_of_block (a:=⟨b,off+i,none⟩) (Below.heap_setCell W _ _ b (by show b≠Bt;omega))).trans (hx i hi)
theorem tp_keep {base B o:Nat} {t:Gn.Tp} (h:Gn.TpAt W base B o t) (hB:W'.heap[B]?=W.heap[B]?) (hl:∀b,b < base→W'.heap[b]?=W.heap[b]?):Gn.TpAt W' base B o t:=by
 obtain⟨⟨a,cap,r0,r1,r2⟩,r3,r4,r5⟩:=h;exact⟨⟨a,cap,(World.cell?_of_block (a:=⟨B,o,none⟩) hB).trans r0,r1,r2.imp id fun⟨b,off,e,hb,hx⟩=>⟨b,off,e,hb,fun i hi=>(World.cell?_of_block (a:=⟨b,off+i,none⟩) (hl b hb)).trans (hx i hi)⟩⟩,(World.cell?_of_block (a:=⟨B,o+1,none⟩) hB).trans r3,(World.frozen?_of_block (a:=⟨B,o+1,none⟩) hB).trans r4,r5⟩
theorem TrW.store (h:TrW w0 W Bt K v bs ti bud T) {P':St.Pst} (s':Sto) (ht:St.StTold w0 K T.p W P' W') (hk:P'.k=T.p.k) (hn:P'.n=T.p.n):∃K',TrW w0 W' Bt K' v bs ti bud {T with p:=P',s:=s'} ∧K'.B=K.B∧(∀b,b < W.heap.size→¬K.own T.p.k b→W'.heap[b]?=W.heap[b]?)∧W.heap.size≤W'.heap.size:=by
 obtain⟨K',hp,hf⟩:=ht;have hsame:∀b,b=Bt∨b∈bs→W'.heap[b]?=W.heap[b]?:=fun b hb=>hf.rest b (h.lo (List.mem_cons.2 hb)).2 (h.dj b hb).1
 have hlow:∀b,b < w0.heap.size→W'.heap[b]?=W.heap[b]?:=fun b hb=>hf.rest b (Nat.lt_of_lt_of_le hb h.st.bel.size) fun ho=>by have:=(h.st.own_lt ho).1;omega
 have hc:=h.c.block (hsame Bt (.inl rfl));refine⟨K',⟨hp,tp_keep h.tp (hsame Bt (.inl rfl)) hlow,h.gn.low (fun b hb=>hsame b (.inr hb)) hf.size,h.Bn,?_,fun b hb=>⟨fun ho=>?_,fun hl=>?_⟩⟩,hf.B.1,hf.rest,hf.size⟩
 ·exact⟨by rw[hn];exact hc.c0,by rw[hk];exact hc.c1,hc.c5,hc.c7,by rw[hf.B.1];exact hc.c8,hc.c9,hc.c12,hc.c13,hc.f12,hc.f13⟩
 ·rw[hk] at ho;rcases hf.own b ho with h1 | h1
  ·exact(h.dj b hb).1 h1
  ·have:=(h.lo (List.mem_cons.2 hb)).2;omega
 ·refine(h.dj b hb).2 ?_;unfold St.LTg at hl ⊢;rw[←hsame b hb];exact hl
theorem TrW.below (h:TrW w0 W Bt K v bs ti bud T) (hb:Below W.heap.size W W'):TrW w0 W' Bt K v bs ti bud T:=by
 have hsame:∀b,b=Bt∨b∈bs→W'.heap[b]?=W.heap[b]?:=fun b hb'=>hb.block b (h.lo (List.mem_cons.2 hb')).2
 refine⟨h.st.below hb,tp_keep h.tp (hsame Bt (.inl rfl)) (fun b hb'=>hb.block b (Nat.lt_of_lt_of_le hb' h.st.bel.size)),h.gn.low (fun b hb'=>hsame b (.inr hb')) hb.size,h.Bn,h.c.block (hsame Bt (.inl rfl)),fun b hb'=>⟨(h.dj b hb').1,fun hl=>(h.dj b hb').2 ?_⟩⟩;unfold St.LTg at hl ⊢;rw[←hsame b hb'];exact hl
theorem TrW.other (h:TrW w0 W Bt K v bs ti bud T) {G:Nat} (hb:Below w0.heap.size w0 W') (hz:W.heap.size≤W'.heap.size) (hs:∀b,b < W.heap.size→b≠G→W'.heap[b]?=W.heap[b]?) (hG:w0.heap.size≤G) (h1:¬K.own T.p.k G) (h2:G≠Bt∧G∉bs) (h3:¬St.LTg W G):TrW w0 W' Bt K v bs ti bud T:=by
 have hsame:∀b,b=Bt∨b∈bs→W'.heap[b]?=W.heap[b]?:=fun b hb'=>hs b (h.lo (List.mem_cons.2 hb')).2 fun e=>by
  rcases hb' with h' | h'
  ·exact h2.1 (e▸h')
  ·exact h2.2 (e▸h')
 refine⟨h.st.keep hb (fun b hb'=>hs b (h.st.own_lt hb').2 fun e=>h1 (e▸hb')) (fun b hb'=>hs b hb'.lt fun e=>h3 (e▸hb')),tp_keep h.tp (hsame Bt (.inl rfl)) (fun b hb'=>hs b (Nat.lt_of_lt_of_le hb' h.st.bel.size) (by omega)),h.gn.low (fun b hb'=>hsame b (.inr hb')) hz,h.Bn,h.c.block (hsame Bt (.inl rfl)),fun b hb'=>⟨(h.dj b hb').1,fun hl=>(h.dj b hb').2 ?_⟩⟩;unfold St.LTg at hl ⊢;rw[←hsame b hb'];exact hl
theorem TrW.res (h:TrW w0 W Bt K v bs ti bud T) {G t:Nat} {q:Bool} {k y:Int} {cs:Array Value} (hc:W.heap[G]?=some (.cells cs t (0,0))) (ht:t≠266∧t≠4) (hG:w0.heap.size≤G) (h1:¬K.own T.p.k G) (h2:G≠Bt∧G∉bs):TrW w0 (Gn.set3 W G (.bool q) (.int .i64 k) (.int .i64 y)) Bt K v bs ti bud T:=by
 have hf:=Gn.fr_set3' W G (.bool q) (.int .i64 k) (.int .i64 y);refine h.other (G:=G) (h.st.bel.trans (hf.below (base:=w0.heap.size) h.st.bel.size (fun x hx=>by simp at hx;omega))) hf.size (fun b hb hn=>hf.block b hb (by simp[hn])) hG h1 h2 fun hl=>?_
 unfold St.LTg at hl;rw[hc] at hl;rcases hl with hl | hl
 ·exact ht.1 (by have:t+1=267:=hl;omega)
 ·exact ht.2 (by have:t+1=5:=hl;omega)
end
end Go.Proofs.YtjpklmighoondaaGreatDoor.Fa
namespace Go.Proofs.YtjpklmighoondaaGreatDoor.Fa
open Go.RowKit
section
variable {w0 W W' : World} {Bt : Nat} {K : St.StK} {v : Value} {bs : List Nat} {ti : ByteArray} {bud : Int} {T : Trl}
set_option maxRecDepth 100000 in
theorem waitP_any {P:St.Pst} (h:St.StoP w0 W K P):Calls Tryz.prog 55 #[.pointer (some ⟨K.B,0,none⟩)] W fun e w'=>e=.returned (.int .i64 (P.mails.length:Int))∧w'=W:=by
 have HN:=hideIt (St.pwait_any _ _ _ _ _ _ _ h.net);clear h;go_enter Tryz.func55,Tryz.ntmps55
 go_wp2_with fail
 refine HN.out.mono ?_;rintro e w' ⟨rfl,rfl⟩;go_wp2;go_ret;exact⟨rfl,rfl⟩
theorem TrW.tape (h:TrW w0 W Bt K v bs ti bud T) (hu:T.t.u≤1000000000) (n:Int) (hn:n < 9223372036854775808):Calls Tryz.prog 46 #[.pointer (some ⟨Bt,10,none⟩),.int .i64 n] W fun e w'=>e=.returned (.int .i64 (T.t.below n))∧TrW w0 w' Bt K v bs ti bud (T.on n):=
 (Gn.tBelow_any w0.heap.size Bt 10 n T.t W h.tp hu hn).mono fun e w' ⟨h1,k,h2⟩=>⟨h1,by rw[h2];exact h.turn n k⟩
set_option maxRecDepth 100000 in
set_option maxHeartbeats 4000000 in
theorem client_any (h:TrW w0 W Bt K v bs ti bud T) (hu:T.t.u≤1000000000) (hk:T.p.k≤8):Calls Tryz.prog 48 #[.pointer (some ⟨Bt,0,none⟩)] W fun e w'=>e=.returned (.int .i64 (T.t.below T.p.k))∧TrW w0 w' Bt K v bs ti bud (T.on T.p.k):=by
 have HT:Hid (∀Z,Below W.heap.size W Z→Calls Tryz.prog 46 #[.pointer (some ⟨Bt,10,none⟩),.int .i64 (T.p.k:Int)] Z fun e w'=>e=.returned (.int .i64 (T.t.below T.p.k))∧TrW w0 w' Bt K v bs ti bud (T.on T.p.k)):=fun Z hZ=>(h.below hZ).tape hu T.p.k (by omega)
 have hc:=h.c.c1;have HC:Hid (∀Z,TrW w0 Z Bt K v bs ti bud (T.on T.p.k)→Z.cell? ⟨Bt,1,none⟩=some (.int .i64 (T.p.k:Int))):=fun Z hZ=>hZ.c.c1
 clear h hu hk;go_enter Tryz.func48,Tryz.ntmps48
 go_upto_region 1 with fail
 refine wp_region_held_drew (S:=fun Z=>Z.cell? ⟨Bt,1,none⟩=some (.int .i64 (T.p.k:Int))) (by kernel_rfl) hc (fun hHeld=>?_);refine tkH 0 ?_ rfl ?_ ?_;rotate_left 1
 ·intro wz hwz;go_simp;all_goals with_reducible rfl
 simp only[Act.put,p1,p2,p3,p4,p5];refine tkH 1 ?_ rfl ?_ ?_;rotate_left 1
 ·intro wz hwz;go_simp;all_goals with_reducible rfl
 simp only[Act.put,p1,p2,p3,p4,p5,p6];refine tkH 2 ?_ rfl ?_ ?_;rotate_left 1
 ·intro wz hwz;go_simp;all_goals with_reducible rfl
 simp only[Act.put,p1,p2,p3,p4,p5,p6];refine tkH 3 ?_ rfl ?_ ?_;rotate_left 1
 ·intro wz hwz;go_simp;all_goals with_reducible rfl
 simp only[Act.put,p1,p2,p3,p4,p5,p6];refine tkH 4 ?_ rfl ?_ ?_;rotate_left 1
 ·intro wz hwz;go_simp;all_goals with_reducible rfl
 simp only[Act.put,p1,p2,p3,p4,p5,p6];refine tkH 5 ?_ rfl ?_ ?_;rotate_left 1
 ·intro wz hwz;go_simp;all_goals with_reducible rfl
 simp only[Act.put,p1,p2,p3,p4,p5,p6];refine tkH 6 ?_ rfl ?_ ?_;rotate_left 1
 ·intro wz hwz;go_simp;all_goals with_reducible rfl
 simp only[Act.put,p1,p2,p3,p4,p5,p6];refine tkH 7 ?_ rfl ?_ ?_;rotate_left 1
 ·intro wz hwz;go_simp;all_goals with_reducible rfl
 simp only[Act.put,p1,p2,p3,p4,p5,p6];refine tkH 8 ?_ rfl ?_ ?_;rotate_left 1
 ·intro wz hwz;go_simp;all_goals with_reducible rfl
 simp only[Act.put,p1,p2,p3,p4,p5,p6];refine wpAnyH_ready (rs:= [9]) (by kernel_rfl) (by simp) (AllReadyH.cons rfl (fun K hK=>?_) AllReadyH.nil);go_simp;refine(HT.out W.drew (Below.refl _ _).drew).mono ?_;rintro x w1 ⟨rfl,h1⟩;have H1:=hideIt h1;have hc1:=HC.out _ h1;clear h1;refine hK.out _ _ ?_ (fun hHeld=>?_)
 ·exact hc1
 clear hK K;refine tkH 10 ?_ rfl ?_ ?_;rotate_left 1
 ·intro wz hwz;go_simp;all_goals with_reducible rfl
 simp only[Act.put,p1,p2,p3,p4,p5,p6];refine wpAnyH_done (by kernel_rfl) ?_ _;go_wp2;go_ret;exact⟨rfl,H1.out⟩
set_option maxRecDepth 100000 in
set_option maxHeartbeats 4000000 in
theorem message_any (h:TrW w0 W Bt K v bs ti bud T) (hu:T.t.u≤1000000000) (hm:T.p.mails.length≤500):Calls Tryz.prog 50 #[.pointer (some ⟨Bt,0,none⟩)] W fun e w'=>e=.returned (.int .i64 (T.t.below T.p.mails.length))∧TrW w0 w' Bt K v bs ti bud (T.on T.p.mails.length):=by
 have HT:Hid (∀Z,Below W.heap.size W Z→Calls Tryz.prog 46 #[.pointer (some ⟨Bt,10,none⟩),.int .i64 (T.p.mails.length:Int)] Z fun e w'=>e=.returned (.int .i64 (T.t.below T.p.mails.length))∧TrW w0 w' Bt K v bs ti bud (T.on T.p.mails.length)):=fun Z hZ=>(h.below hZ).tape hu T.p.mails.length (by omega)
 have HW:Hid (∀Z,Below W.heap.size W Z→Calls Tryz.prog 55 #[.pointer (some ⟨K.B,0,none⟩)] Z fun e w'=>e=.returned (.int .i64 (T.p.mails.length:Int))∧w'=Z):=fun Z hZ=>waitP_any (h.below hZ).st
 have hc:=h.c.c8;have HC:Hid (∀Z,TrW w0 Z Bt K v bs ti bud (T.on T.p.mails.length)→Z.cell? ⟨Bt,8,none⟩=some (.pointer (some ⟨K.B,0,none⟩))):=fun Z hZ=>hZ.c.c8
 clear h hu hm;go_enter Tryz.func50,Tryz.ntmps50
 go_upto_region 1 with fail
 refine wp_region_held_drew (S:=fun Z=>Z.cell? ⟨Bt,8,none⟩=some (.pointer (some ⟨K.B,0,none⟩))) (by kernel_rfl) hc (fun hHeld=>?_);refine tkH 0 ?_ rfl ?_ ?_;rotate_left 1
 ·intro wz hwz;go_simp;all_goals with_reducible rfl
 simp only[Act.put,p1,p2,p3,p4,p5];refine tkH 1 ?_ rfl ?_ ?_;rotate_left 1
 ·intro wz hwz;go_simp;all_goals with_reducible rfl
 simp only[Act.put,p1,p2,p3,p4,p5,p6];refine tkH 2 ?_ rfl ?_ ?_;rotate_left 1
 ·intro wz hwz;go_simp;all_goals with_reducible rfl
 simp only[Act.put,p1,p2,p3,p4,p5,p6];refine tkH 3 ?_ rfl ?_ ?_;rotate_left 1
 ·intro wz hwz;go_simp;all_goals with_reducible rfl
 simp only[Act.put,p1,p2,p3,p4,p5,p6];refine tkH 4 ?_ rfl ?_ ?_;rotate_left 1
 ·intro wz hwz;go_simp;all_goals with_reducible rfl
 simp only[Act.put,p1,p2,p3,p4,p5,p6];refine tkH 5 ?_ rfl ?_ ?_;rotate_left 1
 ·intro wz hwz;go_simp;all_goals with_reducible rfl
 simp only[Act.put,p1,p2,p3,p4,p5,p6];refine tkH 6 ?_ rfl ?_ ?_;rotate_left 1
 ·intro wz hwz;go_simp;all_goals with_reducible rfl
 simp only[Act.put,p1,p2,p3,p4,p5,p6];refine wpAnyH_ready (rs:= [7]) (by kernel_rfl) (by simp) (AllReadyH.cons rfl (fun K hK=>?_) AllReadyH.nil);go_simp;refine(HW.out W.drew (Below.refl _ _).drew).mono ?_;rintro x w1 ⟨rfl,e1⟩;subst e1;refine hK.out _ _ ?_ (fun hHeld=>?_)
 ·exact hc
 clear hK K;refine wpAnyH_ready (rs:= [8]) (by kernel_rfl) (by simp) (AllReadyH.cons rfl (fun K hK=>?_) AllReadyH.nil);go_simp;refine(HT.out W.drew (Below.refl _ _).drew).mono ?_;rintro x w2 ⟨rfl,h1⟩;have H1:=hideIt h1;have hc1:=HC.out _ h1;clear h1;refine hK.out _ _ ?_ (fun hHeld=>?_)
 ·exact hc1
 clear hK K;refine tkH 9 ?_ rfl ?_ ?_;rotate_left 1
 ·intro wz hwz;go_simp;all_goals with_reducible rfl
 simp only[Act.put,p1,p2,p3,p4,p5,p6];refine wpAnyH_done (by kernel_rfl) ?_ _;go_wp2;go_ret;exact⟨rfl,H1.out⟩
end
end Go.Proofs.YtjpklmighoondaaGreatDoor.Fa
