/-
  What next gives: a mix.
  What next gives: one behind the other; and all generators.
-/
import Derived.Test.YtjpklmighoondaaGreatDoorNxBY
set_option maxRecDepth 100000
namespace Go.Proofs.YtjpklmighoondaaGreatDoor.Gn
open Go.RowKit Go.Shelf
theorem mixF_some {nx:Gt→Tp→Gv} {k:Nat} {l:List Gt} {t:Tp} {c:Cl} (h:(nx (l.getD (t.below l.length).toNat (.rd 0)) (t.on l.length)).c=some c):
  mixF nx (k+1) l t=⟨some c,.mix (l.set (t.below l.length).toNat (nx (l.getD (t.below l.length).toNat (.rd 0)) (t.on l.length)).g),(nx (l.getD (t.below l.length).toNat (.rd 0)) (t.on l.length)).t⟩:=by
 simp only[mixF];rw[h]
theorem mixF_none {nx:Gt→Tp→Gv} {k:Nat} {l:List Gt} {t:Tp} (h:(nx (l.getD (t.below l.length).toNat (.rd 0)) (t.on l.length)).c=none):
  mixF nx (k+1) l t=mixF nx k (l.eraseIdx (t.below l.length).toNat) (nx (l.getD (t.below l.length).toNat (.rd 0)) (t.on l.length)).t:=by
 simp only[mixF];rw[h]
theorem GAt.one:∀{n:Nat} {w:World} {base:Nat} {v:Value} {g:Gt} {bs:List Nat},GAt n w base v g bs→v.oneCell'=true:=by
 intro n w base v g bs h;obtain⟨T,x,F,hM⟩:=met_of h;rw[hM.shape];rfl
theorem Parts.allV {P:Value→Gt→List Nat→Prop} {q:Value→Prop} {vs:List Value} {gs:List Gt} {cs:List Nat} (h:Parts P vs gs cs) (k:∀v g bs,P v g bs→q v):∀v∈vs,q v:=by
 induction h with
 | nil=>simp
 | cons h hs ha ih=>
  intro v hv;rcases List.mem_cons.1 hv with rfl | hv
  ·exact k _ _ _ h
  ·exact ih v hv
theorem NxTold.alloc {n base B o:Nat} {t:Tp} {w W:World} {v:Value} {g:Gt} {bs:List Nat} {e:Ending} (h:NxTold n base B o t w v g bs e W) (hB:B < w.heap.size) (ob:Obj):NxTold n base B o t w v g bs e (W.alloc ob):=by
 obtain⟨h1,h2,⟨ds,h3,h4⟩,h5,h6⟩:=h;have hf:=Fr.alloc [] W ob;refine⟨h1,h2.fr hf (by simp) (by simp),⟨ds,h3.fr hf (by simp),h4⟩,h5.trans (hf.more (by simp)),fun p hp hq=>?_⟩;obtain⟨a1,a2⟩:=oth_of hf (Nat.lt_of_lt_of_le hB h5.size) (by simp) p hp;obtain⟨b1,b2⟩:=h6 p hp hq;exact⟨a1.trans b1,a2.trans b2⟩
theorem load_set3A {w:World} {G:Nat} {x y z a b c:Value} (o:Obj) (h0:w.cell? ⟨G,0,none⟩=some x) (h1:w.cell? ⟨G,1,none⟩=some y) (h2:w.cell? ⟨G,2,none⟩=some z):(loadVar 195 ⟨G,0,none⟩).run Tryz.prog ((set3 w G a b c).alloc o)=.ok (.agg #[a,b,c]) ((set3 w G a b c).alloc o):=by
 have hG:G < (set3 w G a b c).heap.size:=by have:=World.block_lt_of_cell? w _ h0;simpa [set3,World.setCell] using this
 have k0:(set3 w G a b c).cell? ⟨G,0,none⟩=some a:=by
  unfold set3;rw[World.cell?_setCell_other _ _ _ _ (offN (by omega)),World.cell?_setCell_other _ _ _ _ (offN (by omega))];exact World.cell?_setCell_same' _ _ _ (by rw[h0];rfl)
 have k1:(set3 w G a b c).cell? ⟨G,1,none⟩=some b:=by
  unfold set3;rw[World.cell?_setCell_other _ _ _ _ (offN (by omega))];refine World.cell?_setCell_same' _ _ _ ?_;rw[World.cell?_setCell_other _ _ _ _ (offN (by omega)),h1];rfl
 have k2:(set3 w G a b c).cell? ⟨G,2,none⟩=some c:=by
  unfold set3;refine World.cell?_setCell_same' _ _ _ ?_;rw[World.cell?_setCell_other _ _ _ _ (offN (by omega)),World.cell?_setCell_other _ _ _ _ (offN (by omega)),h2];rfl
 exact loadCl ((World.cell?_alloc_lt _ _ _ hG).trans k0) ((World.cell?_alloc_lt _ _ _ hG).trans k1) ((World.cell?_alloc_lt _ _ _ hG).trans k2)
structure MixI (n base B o b : Nat) (t0 : Tp) (w : World) (l0 : List Gt) (bs0 : List Nat) (wx : World) (l : List Gt) (t : Tp) (bs : List Nat) : Prop where
 gen:GAt (n+1) wx base (.iface 187 (.pointer (some ⟨b,0,none⟩))) (.mix l) bs
 sub:∀x∈bs,x∈bs0
 tp:TpAt wx base B o t
 use:t.u+wtF (n+1) (.mix l)≤1000000000
 fr:Fr (B::bs0) w wx
 oth:∀p:Addr,p.block=B→p≠⟨B,o+1,none⟩→wx.cell? p=w.cell? p∧wx.frozen? p=w.frozen? p
 res:wx.heap[w.heap.size]?=some (.cells #[.bool false,.int .i64 0,.int .i64 0] 195)
 nx:nextF (n+1) (.mix l0) t0=mixF (nextF n) l.length l t
theorem told_set3 {n base B o:Nat} {t0:Tp} {w W:World} {v:Value} {g0:Gt} {bs0 bs:List Nat} {r:Gv} {q:Bool} {k x:Int} {ok:Bool} (hnx:nextF n g0 t0=r) (hcl:clA r.c=.agg #[.bool q,.int .i64 k,.int .i64 x]) (hok:r.c.isSome=ok) (hfr:Fr (B::bs0) w W)
  (hoth:∀p:Addr,p.block=B→p≠⟨B,o+1,none⟩→W.cell? p=w.cell? p∧W.frozen? p=w.frozen? p) (htp:TpAt W base B o r.t) (hgen:GAt n W base v r.g bs) (hsub:∀x∈bs,x∈bs0) (h0:∀x∈bs0,base≤x∧x < w.heap.size) (hB:B < w.heap.size):
  NxTold n base B o t0 w v g0 bs0 (.returned (.tuple #[.agg #[.bool q,.int .i64 k,.int .i64 x],.bool ok])) (set3 W w.heap.size (.bool q) (.int .i64 k) (.int .i64 x)):=by
 have hlo:=htp.lo;have hF3:=fr_set3' W w.heap.size (.bool q) (.int .i64 k) (.int .i64 x);refine⟨?_,?_,?_,fr_set3 hfr (Nat.le_refl _) _ _ _,?_⟩
 ·rw[hnx];unfold clV;rw[hcl,hok]
 ·rw[hnx];exact htp.fr hF3 (by simp;omega) (by simp;omega)
 ·rw[hnx];exact⟨bs,hgen.fr hF3 (fun c hc e=>by simp at e;have:=(h0 c (hsub c hc)).2;omega),hsub⟩
 ·intro p hp hq;obtain⟨a1,a2⟩:=oth_set3 W w.heap.size (.bool q) (.int .i64 k) (.int .i64 x) p (by rw[hp];omega);obtain⟨b1,b2⟩:=hoth p hp hq;exact⟨a1.trans b1,a2.trans b2⟩
set_option maxHeartbeats 8000000 in
theorem mix_next {n:Nat} (ih:AllNx n) (base B o b:Nat) (t0:Tp) (w:World) (l0:List Gt) (bs0:List Nat) (h:GAt (n+1) w base (.iface 187 (.pointer (some ⟨b,0,none⟩))) (.mix l0) bs0) (ht:TpAt w base B o t0) (hB:B∉bs0) (hu:t0.u+wtF (n+1) (.mix l0)≤1000000000):
  Calls Tryz.prog 317 #[.pointer (some ⟨b,0,none⟩),.pointer (some ⟨B,o,none⟩)] w (NxTold (n+1) base B o t0 w (.iface 187 (.pointer (some ⟨b,0,none⟩))) (.mix l0) bs0):=by
 have hfr:∀X,Fr X w (w.alloc (.cells #[.bool false,.int .i64 0,.int .i64 0] 195)):=fun X=>Fr.alloc _ _ _
 have HI:Hid (MixI n base B o b t0 w l0 bs0 (w.alloc (.cells #[.bool false,.int .i64 0,.int .i64 0] 195)) l0 t0 bs0):=
  ⟨h.fr (hfr []) (by simp),fun _ hx=>hx,ht.fr (hfr []) (by simp) (by simp),hu,hfr _,fun p hp _=>oth_of (hfr []) ht.lt (by simp) p hp,heap_new _ _,by rw[nextF]⟩
 have hBlt:=ht.lt;have hlo:=ht.lo;have hb0:∀x∈bs0,base≤x∧x < w.heap.size:=fun x hx=>h.in_ x hx
 have HB0:=hideIt hb0;have HBn:=hideIt hB;clear h ht hb0 hfr hB hu;go_enter Tryz.func317,Tryz.ntmps317
 go_wp2
 go_loopg [6,7,8] l0.length (fun g _ _ _ wx=>∃l t bs,g=l.length∧MixI n base B o b t0 w l0 bs0 wx l t bs)
 case atStart=>exact⟨l0,t0,bs0,rfl,HI.out⟩
 case round=>
  obtain⟨l,t,bs,hg,hI⟩:=hrel;have HM:=hideIt hI;obtain⟨⟨b',g,cap,us,cs,e1,rfl,h2,h3,h4,h5,h6,h7,h8,h9,h10⟩,hsub,htp,huse,hfr,hoth,hres,hnx⟩:=hI;cases e1;have hblt:b < wr.heap.size:=World.block_lt_of_cell? wr _ h6;have hzz:=hfr.size;have hwr:w.heap.size < wr.heap.size:=(Array.getElem?_eq_some_iff.1 hres).1;cases l with
  | nil=>
   obtain⟨z0,z1,z2⟩:=blk3 hres;have f0:=frozen_of_row wr w.heap.size 0 _ 195 hres;have f1:=frozen_of_row wr w.heap.size 1 _ 195 hres;have f2:=frozen_of_row wr w.heap.size 2 _ 195 hres;clear h8 h10 hfr hoth hres hnx huse htp hsub;simp only[List.length_nil] at h6;go_wp2;change bodyPost _ _ _ _ _ (set3 wr w.heap.size (.bool false) (.int .i64 0) (.int .i64 0));refine bodyPost_ret (results_two rfl _ _ _ _ rfl (load_set3 z0 z1 z2)) rfl ?_;exact(told_set3 (ok:=false) HM.out.nx rfl rfl HM.out.fr HM.out.oth HM.out.tp HM.out.gen HM.out.sub HB0.out hBlt)
  | cons g1 l=>
   generalize hL:g1::l=L at*
   have hlen:0 < L.length:=by rw[←hL];simp
   clear hL l g1;have hgt:(0:Int) < (L.length:Int):=by omega
   have hul:us.length=L.length:=h10.len;obtain⟨i,hi⟩:∃i,(t.below L.length).toNat=i:=⟨_,rfl⟩;have hbl:=Tp.below_lt (t:=t) hgt;have hil:i < L.length:=by omega
   have hbi:t.below L.length=(i:Int):=by omega
   obtain⟨u,ds,hu1,hP,hds,hset,her⟩:=h10.at_ i hil;obtain⟨T,x,F,hMt⟩:=met_of hP;have hsh:=hMt.shape;subst hsh;have hnil:=hMt.nil;have hmet:=hMt.met;have hent:=hMt.ent;have hgd:L.getD (t.below L.length).toNat (.rd 0)=L[i]:=by rw[hi,List.getD_eq_getElem?_getD,List.getElem?_eq_getElem hil];rfl
   have HU:Hid (wtF n L[i]+1≤wtF (n+1) (.mix L)):=hideIt (by
    have:=sum_erase (fun g=>1+wtF n g) L i hil;rw[wtF];omega)
   have HBL:=hideIt (tBelow_any base B o (L.length:Int) t wr htp (by omega) (by omega));rw[hbi] at HBL;have HGD:=hideIt hgd;have HP:=hideIt hP;have HSet:=hideIt hset;have HEr:=hideIt her;have HDs:=hideIt hds;have HMt:=hideIt hMt;have HRow:=hideIt h8;have HBI:=hideIt hbi;have hux:us[i]?=some (.iface T x):=hu1;have HOne:=hideIt (h10.allV (q:=fun u=>u.oneCell'=true) (fun v g bs h=>h.one));clear hgd hP hset her hds hMt h8 h10 hfr hoth hres hnx htp hsub hbl hbi hu1;go_wp2_with fail
   refine HBL.out.mono ?_;rintro y W1 ⟨rfl,n1,rfl⟩;have hBn:=HBn.out;have hbs0:b∈bs0:=HM.out.sub b (by simp);have hgs0:g∈bs0:=HM.out.sub g (by simp);have hBb:B≠b:=fun e=>hBn (e▸hbs0)
   have hBg:B≠g:=fun e=>hBn (e▸hgs0)
   have hBd:B∉ds:=fun e=>hBn (HM.out.sub B (by simp[HDs.out B e]))
   have hT1:=HM.out.tp.turn (L.length:Int) n1;have hF1:Fr [B] wr (tpTurn (wr.drewN n1) B o t (L.length:Int)):=Fr.turn wr B o t _ n1;have hO1:=tpTurn_oth (wr.drewN n1) B o t (L.length:Int);have huon:=Tp.on_u t (L.length:Int);have hbon:(t.on (L.length:Int)).u+wtF n L[i]≤1000000000:=by have:=HU.out;omega
   have hk1:(tpTurn (wr.drewN n1) B o t (L.length:Int)).heap[b]?=wr.heap[b]?:=hF1.block b hblt (by simp[Ne.symm hBb]);have hglt:g < wr.heap.size:=(HM.out.gen.in_ g (by simp)).2;have hkg:(tpTurn (wr.drewN n1) B o t (L.length:Int)).heap[g]?=wr.heap[g]?:=hF1.block g hglt (by simp[Ne.symm hBg]);have a0:(tpTurn (wr.drewN n1) B o t (L.length:Int)).cell? ⟨b,0,none⟩=some (.slice (some ⟨g,0,none⟩) L.length cap):=(World.cell?_of_block (a:=⟨b,0,none⟩) hk1).trans h6;have a1:(tpTurn (wr.drewN n1) B o t (L.length:Int)).cell? ⟨g,i,none⟩=some (.iface T x):=(World.cell?_of_block (a:=⟨g,i,none⟩) hkg).trans ((HRow.out.cellAt i (by omega)).trans hux);have a2:(tpTurn (wr.drewN n1) B o t (L.length:Int)).frozen? ⟨b,0,none⟩=false:=(World.frozen?_of_block (a:=⟨b,0,none⟩) hk1).trans h7;have HG1:=hideIt (HP.out.fr hF1 (fun c hc e=>by simp at e;exact hBd (e▸hc)));have HRow1:=hideIt (ownsRow_blk HRow.out (fun y hy=>by have hy':some g=some y:=hy;cases hy';exact hkg));have HT1:=hideIt hT1;have HF1:=hideIt hF1;have HO1:=hideIt hO1;have hs1:wr.heap.size≤(tpTurn (wr.drewN n1) B o t (L.length:Int)).heap.size:=hF1.size;clear hT1 hF1 hO1 hk1 hkg h6 h7;generalize tpTurn (wr.drewN n1) B o t (L.length:Int)=W1 at*
   generalize hton:t.on (L.length:Int)=t1 at*
   go_wp2_with fail
   refine(ih base B o t1 W1 _ L[i] ds HG1.out HT1.out hBd hbon T x F HMt.out).mono ?_;rintro y W2 ⟨rfl,hT2,⟨ds',hG2,hds'⟩,hF2,hO2⟩;have hnu:=nextF_use n L[i] t1;obtain⟨q,kk,vv,hcl⟩:=clV_form (nextF n L[i] t1).c;have hno:∀y,y∈bs0→y∉ds→y∉B::ds:=fun y hy hn e=>by
    rcases List.mem_cons.1 e with e | e
    ·exact hBn (e▸hy)
    ·exact hn e
   have hbd:b∉ds:=fun e=>h4 (HDs.out b e)
   have hgd:g∉ds:=fun e=>h5 (HDs.out g e)
   have hk2:W2.heap[b]?=W1.heap[b]?:=hF2.block b (by omega) (hno b hbs0 hbd);have hkg2:W2.heap[g]?=W1.heap[g]?:=hF2.block g (by omega) (hno g hgs0 hgd);have b0:=(World.cell?_of_block (a:=⟨b,0,none⟩) hk2).trans a0;have b2:=(World.frozen?_of_block (a:=⟨b,0,none⟩) hk2).trans a2;have HRow2:=hideIt (ownsRow_blk HRow1.out (fun y hy=>by have hy':some g=some y:=hy;cases hy';exact hkg2));have HG2:=hideIt hG2;have HT2:=hideIt hT2;have HF2:=hideIt hF2;have HO2:=hideIt hO2;have HCl:=hideIt hcl;have HDs':=hideIt hds';have hs2:=hF2.size;have hw1:w.heap.size∉B::ds:=fun e=>by
    rcases List.mem_cons.1 e with e | e
    ·omega
    ·have:=(HB0.out _ (HM.out.sub w.heap.size (by simp[HDs.out _ e]))).2;omega
   have hr2:=((hF2.block w.heap.size (by omega) hw1).trans (HF1.out.block w.heap.size hwr (fun e=>by simp at e;omega))).trans HM.out.res;obtain⟨z0,z1,z2⟩:=blk3 hr2;have f0:=frozen_of_row W2 w.heap.size 0 _ 195 hr2;have f1:=frozen_of_row W2 w.heap.size 1 _ 195 hr2;have f2:=frozen_of_row W2 w.heap.size 2 _ 195 hr2;have HR2:=hideIt hr2;have nb:b < W2.heap.size:=by omega
   have nb1:¬b=W2.heap.size:=by omega
   have nb2:¬W2.heap.size=b:=by omega
   have nw:w.heap.size < W2.heap.size:=by omega
   have nw1:¬w.heap.size=W2.heap.size:=by omega
   have nw2:¬W2.heap.size=w.heap.size:=by omega
   have nbw:¬b=w.heap.size:=fun e=>by have:=(HB0.out _ hbs0).2;omega
   have nbw2:¬w.heap.size=b:=fun e=>nbw e.symm
   clear hr2;unfold clV;rw[hcl];generalize hok:(nextF n L[i] t1).c.isSome=ok;have HOk:=hideIt hok;clear hG2 hT2 hF2 hO2 hcl hds' hk2 hkg2 a0 a2 a1 hok;have HF02:Hid (Fr (B::bs0) w W2):=(HM.out.fr.trans (HF1.out.more (by simp))).trans (HF2.out.more (fun y hy=>.inl (by rcases List.mem_cons.1 hy with h | h;simp[h];simp[HM.out.sub y (by simp[HDs.out y h])])));have HO02:Hid (∀p:Addr,p.block=B→p≠⟨B,o+1,none⟩→W2.cell? p=w.cell? p∧W2.frozen? p=w.frozen? p):=fun p hp hq=>by
    obtain⟨x1,x2⟩:=HO2.out p hp hq;obtain⟨y1,y2⟩:=HO1.out p hq;obtain⟨v1,v2⟩:=HM.out.oth p hp hq;exact⟨x1.trans (y1.trans v1),x2.trans (y2.trans v2)⟩
   have HLow:Hid (∀v g xs,(∀y∈xs,y∈cs∧y∉ds)→GAt n wr base v g xs→GAt n W2 base v g xs):=fun v g xs has hp=>by
    refine hp.low (fun y hy=>?_) (by omega);obtain⟨q1,q2⟩:=has y hy;have hyb:=HM.out.sub y (by simp[q1]);have hlt:=(hp.in_ y hy).2;exact(HF2.out.block y (by omega) (hno y hyb q2)).trans (HF1.out.block y hlt (by simp;exact fun e=>hBn (e▸hyb)))
   have HW:Hid (Tryz.prog.cellsOf 0=Tryz.prog.cellsOf 0):=rfl;have hnu2:=HU.out;cases ok
   ·have HE:=hideIt (HEr.out (GAt n W2 base) HLow.out);have hnone:(nextF n L[i] t1).c=none:=by have:=HOk.out;cases h:(nextF n L[i] t1).c with
     | none=>rfl
     | some c=>rw[h] at this;cases this
    have HNx:Hid (nextF (n+1) (.mix l0) t0=mixF (nextF n) (L.eraseIdx i).length (L.eraseIdx i) (nextF n L[i] t1).t):=hideIt (by
     rw[HM.out.nx];obtain⟨m,hm⟩:∃m,L.length=m+1:=⟨L.length - 1,by omega⟩;have hm2:(L.eraseIdx i).length=m:=by rw[List.length_eraseIdx_of_lt hil];omega
     rw[hm2,hm,mixF_none (by rw[HGD.out,hton];exact hnone),HGD.out,hton,hi])
    have HSum:=hideIt (sum_erase (fun g=>1+wtF n g) L i hil);have hulE:(us.eraseIdx i).length=(L.eraseIdx i).length:=by rw[List.length_eraseIdx_of_lt (by omega),List.length_eraseIdx_of_lt hil,hul]
    have hgW:g < W2.heap.size:=by omega
    have HRow3:∀ob,Hid ((W2.alloc ob).ownsRow base 61 1 (.slice (some ⟨g,0,none⟩) L.length cap) us.length us):=fun ob=>by
     have:=ownsRow_blk HRow2.out (w':=W2.alloc ob) (fun y hy=>by have hy':some g=some y:=hy;cases hy';exact Below.heap_alloc _ _ _ hgW);rw[hul];exact this
    have HPd:=hideIt (fun ob=>pdel_any i base (.slice (some ⟨g,0,none⟩) L.length cap) us (by omega) HOne.out (by omega) (W2.alloc ob) (HRow3 ob).out);have HB2:∀ob,Hid ((W2.alloc ob).heap[b]?=W2.heap[b]?):=fun ob=>Below.heap_alloc _ _ _ nb
    have HB3:=hideIt b0;have HB4:=hideIt b2;clear HRow3;go_wp2_with fail
    refine(HPd.out _).mono ?_;rintro y W4 ⟨v',rfl,hg4,ho4,hv4⟩;have hs4:=hg4.size;rw[World.size_alloc] at hs4;obtain⟨cap4,rfl⟩:∃c4,v'=.slice (some ⟨g,0,none⟩) (L.eraseIdx i).length c4:=by
     rcases ho4.2 with ⟨e,_⟩ | ⟨g4,c4,cur,e,_⟩
     ·rw[e] at hv4;cases hv4
     ·rw[e] at hv4;have e4:some g4=some g:=hv4;cases e4;exact⟨c4,by rw[e,hulE]⟩
    rw[hulE] at ho4;have hgb:∀y,y < W2.heap.size→y≠g→W4.heap[y]?=W2.heap[y]?:=fun y hy hn=>(hg4.block y (by rw[World.size_alloc];omega) (fun e=>by have e':some y=some g:=e;cases e';exact hn rfl)).trans (Below.heap_alloc _ _ _ hy)
    have kb:=hgb b nb h3;have c0:=(World.cell?_of_block (a:=⟨b,0,none⟩) kb).trans HB3.out;have c2:=(World.frozen?_of_block (a:=⟨b,0,none⟩) kb).trans HB4.out;have HG4:=hideIt hgb;have HO4:=hideIt ho4;have hF4:Hid (Fr (g:: []) W2 W4):=⟨hg4.os,hg4.tape,hg4.output,by omega,fun k hk hn=>hgb k hk (fun e=>hn (by simp[e])),fun k hk=>by
     by_cases e:k=g
     ·rw[e,own_tgD ho4,own_tgD HRow2.out]
     ·rw[hgb k hk e]⟩
    clear hgb ho4 hg4 hv4 HPd HB2;go_wp2;have hne4:∀y,y∈B::bs0→y≠b→y≠g→(W4.setCell ⟨b,0,none⟩ (.slice (some ⟨g,0,none⟩) (L.eraseIdx i).length cap4)).heap[y]?=W2.heap[y]?:=fun y hy e1 e2=>by
     have hlt:y < W2.heap.size:=by
      rcases List.mem_cons.1 hy with h | h
      ·omega
      ·have:=(HB0.out y h).2;omega
     exact(Below.heap_setCell _ _ _ _ (by exact e1)).trans (HG4.out y hlt e2)
    have hs5:W2.heap.size≤(W4.setCell ⟨b,0,none⟩ (.slice (some ⟨g,0,none⟩) (L.eraseIdx i).length cap4)).heap.size:=by simp[World.setCell];omega
    have hF5:Fr (b::g:: []) W2 (W4.setCell ⟨b,0,none⟩ (.slice (some ⟨g,0,none⟩) (L.eraseIdx i).length cap4)):=(hF4.out.more (by simp)).trans (Fr.set _ _ _ (by simp));have d0:(W4.setCell ⟨b,0,none⟩ (.slice (some ⟨g,0,none⟩) (L.eraseIdx i).length cap4)).cell? ⟨b,0,none⟩=some (.slice (some ⟨g,0,none⟩) (L.eraseIdx i).length cap4):=World.cell?_setCell_same' _ _ _ (by rw[c0];rfl);have d2:(W4.setCell ⟨b,0,none⟩ (.slice (some ⟨g,0,none⟩) (L.eraseIdx i).length cap4)).frozen? ⟨b,0,none⟩=false:=by rw[frozen_setCell];exact c2
    have dr:(W4.setCell ⟨b,0,none⟩ (.slice (some ⟨g,0,none⟩) (L.eraseIdx i).length cap4)).heap[w.heap.size]?=some (.cells #[.bool false,.int .i64 0,.int .i64 0] 195):=by
     have hgw:w.heap.size≠g:=fun e=>by have:=(HB0.out _ hgs0).2;omega
     exact((Below.heap_setCell _ _ _ _ (by exact nbw2)).trans (HG4.out _ nw hgw)).trans HR2.out
    have dro:(W4.setCell ⟨b,0,none⟩ (.slice (some ⟨g,0,none⟩) (L.eraseIdx i).length cap4)).ownsRow base 61 1 (.slice (some ⟨g,0,none⟩) (L.eraseIdx i).length cap4) (L.eraseIdx i).length (us.eraseIdx i):=ownsRow_blk HO4.out (fun y hy=>by have hy':some g=some y:=hy;cases hy';exact Below.heap_setCell _ _ _ _ (by exact Ne.symm h3));generalize W4.setCell ⟨b,0,none⟩ (.slice (some ⟨g,0,none⟩) (L.eraseIdx i).length cap4)=W5 at*
    go_roundg (L.eraseIdx i).length
    case measure=>rw[hg,List.length_eraseIdx_of_lt hil];omega
    case rel=>
     obtain⟨cs',hp1,hp2⟩:=HE.out;have hsb:∀y∈cs',y∈bs0∧y≠b∧y≠g:=fun y hy=>⟨HM.out.sub y (by simp[hp2 y hy]),fun e=>h4 (e▸hp2 y hy),fun e=>h5 (e▸hp2 y hy)⟩
     refine⟨L.eraseIdx i,(nextF n L[i] t1).t,b::g::cs',rfl,?_,?_,?_,?_,?_,?_,dr,HNx.out⟩
     ·refine⟨b,g,cap4,us.eraseIdx i,cs',rfl,rfl,h2,h3,fun e=>h4 (hp2 _ e),fun e=>h5 (hp2 _ e),d0,d2,dro,by rw[List.length_eraseIdx_of_lt hil];omega,?_⟩;exact hp1.mono fun v gg xs hxs hp=>hp.low (fun y hy=>hne4 y (by simp[(hsb y (hxs y hy)).1]) (hsb y (hxs y hy)).2.1 (hsb y (hxs y hy)).2.2) hs5
     ·intro y hy;rcases List.mem_cons.1 hy with h | hy
      ·rw[h];exact hbs0
      rcases List.mem_cons.1 hy with h | hy
      ·rw[h];exact hgs0
      ·exact(hsb y hy).1
     ·exact HT2.out.fr hF5 (by simp[hBb,hBg]) (by intro y hy;rcases List.mem_cons.1 hy with h | hy;(· rw[h];exact h2);simp at hy;rw[hy];exact(HB0.out _ hgs0).1)
     ·have:=HSum.out;rw[wtF] at huse ⊢;omega
     ·exact HF02.out.trans (hF5.more (by intro y hy;rcases List.mem_cons.1 hy with h | hy;(· exact .inl (by simp[h,hbs0]));simp at hy;exact .inl (by simp[hy,hgs0])))
     ·intro p hp hq;obtain⟨x1,x2⟩:=oth_of hF5 (by omega) (by simp[hBb,hBg]) p hp;obtain⟨y1,y2⟩:=HO02.out p hp hq;exact⟨x1.trans y1,x2.trans y2⟩
   ·go_wp2;change bodyPost _ _ _ _ _ ((set3 W2 w.heap.size (.bool q) (.int .i64 kk) (.int .i64 vv)).alloc _);refine bodyPost_ret (results_two rfl _ _ _ _ rfl (load_set3A _ z0 z1 z2)) rfl ?_;obtain⟨cs',hp1,hp2⟩:=HSet.out (GAt n W2 base) (.iface T x) (nextF n L[i] t1).g ds' HDs'.out HG2.out HLow.out;have hus:us.set i (.iface T x)=us:=by
     apply List.ext_getElem?
     intro j;by_cases e:i=j
     ·subst e;rw[List.getElem?_set_self (by omega),hux]
     ·rw[List.getElem?_set_ne e]
    rw[hus] at hp1;cases hc:(nextF n L[i] t1).c with
    | none=>have:=HOk.out;rw[hc] at this;cases this
    | some c=>
     have hm:mixF (nextF n) L.length L t=⟨some c,.mix (L.set i (nextF n L[i] t1).g),(nextF n L[i] t1).t⟩:=by
      obtain⟨m,hm⟩:∃m,L.length=m+1:=⟨L.length - 1,by omega⟩;rw[hm,mixF_some (c:=c) (by rw[HGD.out,hton];exact hc),HGD.out,hton,hi]
     have hcl2:=HCl.out;rw[hc] at hcl2;refine(told_set3 (ok:=true) (bs:=b::g::cs') (HM.out.nx.trans hm) hcl2 rfl HF02.out HO02.out HT2.out ?_ ?_ HB0.out hBlt).alloc hBlt _
     ·refine⟨b,g,cap,us,cs',rfl,rfl,h2,h3,fun e=>h4 (hp2 _ e),fun e=>h5 (hp2 _ e),?_,b2,?_,?_,hp1⟩
      ·rw[List.length_set];exact b0
      ·rw[List.length_set];exact HRow2.out
      ·rw[List.length_set];exact h9
     ·intro y hy;rcases List.mem_cons.1 hy with h | hy
      ·rw[h];exact hbs0
      rcases List.mem_cons.1 hy with h | hy
      ·rw[h];exact hgs0
      ·exact HM.out.sub y (by simp[hp2 y hy])
open Go.RowKit Go.Shelf
theorem thnF_some {nx:Gt→Tp→Gv} {g:Gt} {l:List Gt} {t:Tp} {c:Cl} (h:(nx g t).c=some c):thnF nx (g::l) t=⟨some c,.thn ((nx g t).g::l),(nx g t).t⟩:=by
 simp only[thnF];rw[h]
theorem thnF_none {nx:Gt→Tp→Gv} {g:Gt} {l:List Gt} {t:Tp} (h:(nx g t).c=none):thnF nx (g::l) t=thnF nx l (nx g t).t:=by
 simp only[thnF];rw[h]
structure ThnI (n base B o b : Nat) (t0 : Tp) (w : World) (l0 : List Gt) (bs0 : List Nat) (wx : World) (l : List Gt) (t : Tp) (bs : List Nat) : Prop where
 gen:GAt (n+1) wx base (.iface 192 (.pointer (some ⟨b,0,none⟩))) (.thn l) bs
 sub:∀x∈bs,x∈bs0
 tp:TpAt wx base B o t
 use:t.u+wtF (n+1) (.thn l)≤1000000000
 fr:Fr (B::bs0) w wx
 oth:∀p:Addr,p.block=B→p≠⟨B,o+1,none⟩→wx.cell? p=w.cell? p∧wx.frozen? p=w.frozen? p
 res:wx.heap[w.heap.size]?=some (.cells #[.bool false,.int .i64 0,.int .i64 0] 195)
 nx:nextF (n+1) (.thn l0) t0=thnF (nextF n) l t
set_option maxHeartbeats 8000000 in
theorem then_next {n:Nat} (ih:AllNx n) (base B o b:Nat) (t0:Tp) (w:World) (l0:List Gt) (bs0:List Nat) (h:GAt (n+1) w base (.iface 192 (.pointer (some ⟨b,0,none⟩))) (.thn l0) bs0) (ht:TpAt w base B o t0) (hB:B∉bs0) (hu:t0.u+wtF (n+1) (.thn l0)≤1000000000):
  Calls Tryz.prog 319 #[.pointer (some ⟨b,0,none⟩),.pointer (some ⟨B,o,none⟩)] w (NxTold (n+1) base B o t0 w (.iface 192 (.pointer (some ⟨b,0,none⟩))) (.thn l0) bs0):=by
 have hfr:∀X,Fr X w (w.alloc (.cells #[.bool false,.int .i64 0,.int .i64 0] 195)):=fun X=>Fr.alloc _ _ _
 have HI:Hid (ThnI n base B o b t0 w l0 bs0 (w.alloc (.cells #[.bool false,.int .i64 0,.int .i64 0] 195)) l0 t0 bs0):=
  ⟨h.fr (hfr []) (by simp),fun _ hx=>hx,ht.fr (hfr []) (by simp) (by simp),hu,hfr _,fun p hp _=>oth_of (hfr []) ht.lt (by simp) p hp,heap_new _ _,by rw[nextF]⟩
 have hBlt:=ht.lt;have hlo:=ht.lo;have hb0:∀x∈bs0,base≤x∧x < w.heap.size:=fun x hx=>h.in_ x hx
 have HB0:=hideIt hb0;have HBn:=hideIt hB;clear h ht hb0 hfr hB hu;go_enter Tryz.func319,Tryz.ntmps319
 go_wp2
 go_loopg [6,7] l0.length (fun g _ _ wx=>∃l t bs,g=l.length∧ThnI n base B o b t0 w l0 bs0 wx l t bs)
 case atStart=>exact⟨l0,t0,bs0,rfl,HI.out⟩
 case round=>
  obtain⟨l,t,bs,hg,hI⟩:=hrel;have HM:=hideIt hI;obtain⟨⟨b',r,g,us,cs,e1,rfl,h2,h3,h4,h5,h6,h7,⟨off,cap,rfl,r2,r3,r4,r5,r6⟩,h9,h10⟩,hsub,htp,huse,hfr,hoth,hres,hnx⟩:=hI;cases e1;have hblt:b < wr.heap.size:=World.block_lt_of_cell? wr _ h6;have hzz:=hfr.size;have hwr:w.heap.size < wr.heap.size:=(Array.getElem?_eq_some_iff.1 hres).1;cases h10 with
  | nil=>
   obtain⟨z0,z1,z2⟩:=blk3 hres;have f0:=frozen_of_row wr w.heap.size 0 _ 195 hres;have f1:=frozen_of_row wr w.heap.size 1 _ 195 hres;have f2:=frozen_of_row wr w.heap.size 2 _ 195 hres;clear hfr hoth hres hnx huse htp hsub r6;simp only[List.length_nil] at h6;go_wp2;change bodyPost _ _ _ _ _ (set3 wr w.heap.size (.bool false) (.int .i64 0) (.int .i64 0));refine bodyPost_ret (results_two rfl _ _ _ _ rfl (load_set3 z0 z1 z2)) rfl ?_;exact(told_set3 (ok:=false) HM.out.nx rfl rfl HM.out.fr HM.out.oth HM.out.tp HM.out.gen HM.out.sub HB0.out hBlt)
  | @cons u g1 ds us l cs hP hs ha=>
   obtain⟨T,x,F,hMt⟩:=met_of hP;have hsh:=hMt.shape;subst hsh;have hnil:=hMt.nil;have hmet:=hMt.met;have hent:=hMt.ent;have hul:us.length=l.length:=hs.len;have hgt:(0:Int) < ((us.length+1:Nat):Int):=by omega
   have hux:wr.cell? ⟨g,off,none⟩=some (.iface T x):=r6 0 (by simp);have HR6:=hideIt r6;have HU:Hid (wtF n g1+wtF (n+1) (.thn l)=wtF (n+1) (.thn (g1::l))):=hideIt (by simp[wtF]);have HP:=hideIt hP;have HRest:=hideIt hs;have HA:=hideIt ha;have HMt:=hideIt hMt;have hBn:=HBn.out;have hbs0:b∈bs0:=HM.out.sub b (by simp);have hgs0:g∈bs0:=HM.out.sub g (by simp);have hBb:B≠b:=fun e=>hBn (e▸hbs0)
   have hBg:B≠g:=fun e=>hBn (e▸hgs0)
   have hBd:B∉ds:=fun e=>hBn (HM.out.sub B (by simp[e]))
   have hT1:=HM.out.tp;have hbon:t.u+wtF n g1≤1000000000:=by have:=HU.out;omega
   have hglt:g < wr.heap.size:=r5;simp only[List.length_cons] at h6 r2;clear hP hs ha hMt hfr hoth hres hnx htp hsub r6;have HT1:=hideIt hT1;clear hT1;go_wp2_with fail
   refine(ih base B o t wr _ g1 ds HP.out HT1.out hBd hbon T x F HMt.out).mono ?_;rintro y W2 ⟨rfl,hT2,⟨ds',hG2,hds'⟩,hF2,hO2⟩;have hnu:=nextF_use n g1 t;obtain⟨q,kk,vv,hcl⟩:=clV_form (nextF n g1 t).c;have hno:∀y,y∈bs0→y∉ds→y∉B::ds:=fun y hy hn e=>by
    rcases List.mem_cons.1 e with e | e
    ·exact hBn (e▸hy)
    ·exact hn e
   have hbd:b∉ds:=fun e=>h4 (by simp[e])
   have hgd:g∉ds:=fun e=>h5 (by simp[e])
   have hk2:W2.heap[b]?=wr.heap[b]?:=hF2.block b (by omega) (hno b hbs0 hbd);have hkg2:W2.heap[g]?=wr.heap[g]?:=hF2.block g (by omega) (hno g hgs0 hgd);have b0:=(World.cell?_of_block (a:=⟨b,0,none⟩) hk2).trans h6;have b2:=(World.frozen?_of_block (a:=⟨b,0,none⟩) hk2).trans h7;have HR2c:Hid (∀j,(h:j < us.length)→W2.cell? ⟨g,off+1+j,none⟩=some us[j]):=fun j hj=>by
    have:=HR6.out (j+1) (by simp;omega);rw[show off+1+j=off+(j+1) by omega];exact(World.cell?_of_block (a:=⟨g,off+(j+1),none⟩) hkg2).trans (by simpa using this)
   have HR2z:Hid (W2.cell? ⟨g,off,none⟩=some (.iface T x)):=(World.cell?_of_block (a:=⟨g,off,none⟩) hkg2).trans hux;have hs2:=hF2.size;have hw1:w.heap.size∉B::ds:=fun e=>by
    rcases List.mem_cons.1 e with e | e
    ·omega
    ·have:=(HB0.out _ (HM.out.sub w.heap.size (by simp[e]))).2;omega
   have hr2:=(hF2.block w.heap.size (by omega) hw1).trans HM.out.res;obtain⟨z0,z1,z2⟩:=blk3 hr2;have f0:=frozen_of_row W2 w.heap.size 0 _ 195 hr2;have f1:=frozen_of_row W2 w.heap.size 1 _ 195 hr2;have f2:=frozen_of_row W2 w.heap.size 2 _ 195 hr2;have HR2:=hideIt hr2;have nb:b < W2.heap.size:=by omega
   have nb1:¬b=W2.heap.size:=by omega
   have nb2:¬W2.heap.size=b:=by omega
   have nw:w.heap.size < W2.heap.size:=by omega
   have nw1:¬w.heap.size=W2.heap.size:=by omega
   have nw2:¬W2.heap.size=w.heap.size:=by omega
   have nbw:¬b=w.heap.size:=fun e=>by have:=(HB0.out _ hbs0).2;omega
   have nbw2:¬w.heap.size=b:=fun e=>nbw e.symm
   have HG2:=hideIt hG2;have HT2:=hideIt hT2;have HF2:=hideIt hF2;have HO2:=hideIt hO2;have HCl:=hideIt hcl;have HDs':=hideIt hds';unfold clV;rw[hcl];generalize hok:(nextF n g1 t).c.isSome=ok;have HOk:=hideIt hok;have HF02:Hid (Fr (B::bs0) w W2):=HM.out.fr.trans (HF2.out.more (fun y hy=>.inl (by rcases List.mem_cons.1 hy with h | h;simp[h];simp[HM.out.sub y (by simp[h])])));have HO02:Hid (∀p:Addr,p.block=B→p≠⟨B,o+1,none⟩→W2.cell? p=w.cell? p∧W2.frozen? p=w.frozen? p):=fun p hp hq=>by
    obtain⟨x1,x2⟩:=HO2.out p hp hq;obtain⟨v1,v2⟩:=HM.out.oth p hp hq;exact⟨x1.trans v1,x2.trans v2⟩
   have HRest2:Hid (Parts (GAt n W2 base) us l cs):=HRest.out.mono fun v g xs has hp=>hp.low (fun y hy=>by
    have hyb:=HM.out.sub y (by simp[has y hy]);exact HF2.out.block y (hp.in_ y hy).2 (hno y hyb (fun e=>HA.out y e (has y hy)))) (by omega)
   have hbc:b∉cs:=fun e=>h4 (by simp[e])
   have hgc:g∉cs:=fun e=>h5 (by simp[e])
   clear hG2 hT2 hF2 hO2 hcl hds' hk2 hkg2 h6 h7 hok hux hr2;cases ok
   ·have hnone:(nextF n g1 t).c=none:=by have:=HOk.out;cases h:(nextF n g1 t).c with
     | none=>rfl
     | some c=>rw[h] at this;cases this
    have HNx:Hid (nextF (n+1) (.thn l0) t0=thnF (nextF n) l (nextF n g1 t).t):=hideIt (by rw[HM.out.nx,thnF_none hnone]);have HFin:Hid (∀(off' cap':Nat) (ob:Obj),(∀j,(h:j < us.length)→W2.cell? ⟨g,off'+j,none⟩=some us[j])→us.length≤cap'→cap'≤maxLen→∃l1 t1 bs1,l.length=l1.length∧ThnI n base B o b t0 w l0 bs0 ((W2.setCell ⟨b,0,none⟩ (.slice (some ⟨g,off',none⟩) l.length cap')).alloc ob) l1 t1 bs1):=by
     intro off' cap' ob hce hc1 hc2;have hF5:Fr [b] W2 ((W2.setCell ⟨b,0,none⟩ (.slice (some ⟨g,off',none⟩) l.length cap')).alloc ob):=(Fr.set W2 ⟨b,0,none⟩ _ (by simp)).trans (Fr.alloc _ _ _);have d0:((W2.setCell ⟨b,0,none⟩ (.slice (some ⟨g,off',none⟩) l.length cap')).alloc ob).cell? ⟨b,0,none⟩=some (.slice (some ⟨g,off',none⟩) l.length cap'):=(World.cell?_alloc_lt _ _ _ (by simpa [World.setCell] using nb)).trans (World.cell?_setCell_same' _ _ _ (by rw[b0];rfl));have d2:((W2.setCell ⟨b,0,none⟩ (.slice (some ⟨g,off',none⟩) l.length cap')).alloc ob).frozen? ⟨b,0,none⟩=false:=by
      rw[World.frozen?_alloc_old _ _ _ (by simpa [World.setCell] using nb1),frozen_setCell];exact b2
     have hgW:g < W2.heap.size:=by omega
     have hsb:∀y∈cs,y∈bs0:=fun y hy=>HM.out.sub y (by simp[hy])
     refine⟨l,(nextF n g1 t).t,b::g::cs,rfl,?_,?_,?_,?_,?_,?_,?_,HNx.out⟩
     ·refine⟨b,_,g,us,cs,rfl,rfl,h2,h3,hbc,hgc,d0,d2,⟨off',cap',by rw[hul],hc1,hc2,r4,Nat.lt_of_lt_of_le hgW hF5.size,fun j hj=>?_⟩,?_,?_⟩
      ·exact(World.cell?_of_block (a:=⟨g,off'+j,none⟩) (hF5.block g hgW (by simp;exact Ne.symm h3))).trans (hce j hj)
      ·simp at h9;omega
      ·exact HRest2.out.mono fun v gg xs hxs hp=>hp.fr hF5 (fun y hy e=>by simp at e;exact hbc (e▸hxs y hy))
     ·intro y hy;rcases List.mem_cons.1 hy with h | hy
      ·rw[h];exact hbs0
      rcases List.mem_cons.1 hy with h | hy
      ·rw[h];exact hgs0
      ·exact hsb y hy
     ·exact HT2.out.fr hF5 (by simp[hBb]) (by simp[h2])
     ·have:=HU.out;omega
     ·exact HF02.out.trans (hF5.more (by simp[hbs0]))
     ·intro p hp hq;obtain⟨x1,x2⟩:=oth_of hF5 (by omega) (by simp[hBb]) p hp;obtain⟨y1,y2⟩:=HO02.out p hp hq;exact⟨x1.trans y1,x2.trans y2⟩
     ·exact(hF5.block _ nw (by simp[nbw2])).trans HR2.out
    have hgk:gk=l.length+1:=by simpa using hg
    by_cases hcap:cap=1
    ·have hl0:us.length=0:=by omega
     subst hcap;go_wp2
     go_roundg l.length
     case measure=>omega
     case rel=>exact HFin.out off 0 _ (fun j hj=>by omega) (by omega) (by unfold maxLen;omega)
    ·have hcc:¬cap=0+1:=by omega
     go_wp2
     go_roundg l.length
     case measure=>omega
     case rel=>exact HFin.out (off+1) (cap - 1) _ HR2c.out (by omega) (by omega)
   ·go_wp2;change bodyPost _ _ _ _ _ ((set3 W2 w.heap.size (.bool q) (.int .i64 kk) (.int .i64 vv)).alloc _);refine bodyPost_ret (results_two rfl _ _ _ _ rfl (load_set3A _ z0 z1 z2)) rfl ?_;cases hc:(nextF n g1 t).c with
    | none=>have:=HOk.out;rw[hc] at this;cases this
    | some c=>
     have hcl2:=HCl.out;rw[hc] at hcl2;refine(told_set3 (ok:=true) (bs:=b::g::(ds'++cs)) (HM.out.nx.trans (thnF_some hc)) hcl2 rfl HF02.out HO02.out HT2.out ?_ ?_ HB0.out hBlt).alloc hBlt _
     ·refine⟨b,_,g,.iface T x::us,ds'++cs,rfl,rfl,h2,h3,fun e=>?_,fun e=>?_,b0,b2,⟨off,cap,rfl,r2,r3,r4,by omega,fun j hj=>?_⟩,by simpa using h9,.cons HG2.out HRest2.out (fun y hy=>HA.out y (HDs'.out y hy))⟩
      ·rcases List.mem_append.1 e with e | e
       ·exact hbd (HDs'.out _ e)
       ·exact hbc e
      ·rcases List.mem_append.1 e with e | e
       ·exact hgd (HDs'.out _ e)
       ·exact hgc e
      ·cases j with
       | zero=>exact HR2z.out
       | succ j=>rw[show off+(j+1)=off+1+j by omega];simpa using HR2c.out j (by simpa using hj)
     ·intro y hy;rcases List.mem_cons.1 hy with h | hy
      ·rw[h];exact hbs0
      rcases List.mem_cons.1 hy with h | hy
      ·rw[h];exact hgs0
      ·rcases List.mem_append.1 hy with e | e
       ·exact HM.out.sub y (by simp[HDs'.out y e])
       ·exact HM.out.sub y (by simp[e])
theorem allNx:∀n,AllNx n
 | 0=>fun _ _ _ _ _ _ _ _ h=>h.elim
 | n+1=>by
  intro base B o t w v g bs h ht hB hu T x F hM;have ih:=allNx n;cases g with
  | rd k=>
   obtain⟨rfl,rfl⟩:=h;obtain⟨rfl,rfl,rfl⟩:=(MetOk.mk rfl (nil_rd _) (met_rd _) ent_rd).one hM;exact read_next n base B o k t w ht
  | wr k lo hi=>
   obtain⟨rfl,rfl,h1,h2,h3⟩:=h;obtain⟨rfl,rfl,rfl⟩:=(MetOk.mk rfl (nil_wr _ _ _) (met_wr _ _ _) ent_wr).one hM;exact write_next n base B o k lo hi t w ht (by simp[wtF] at hu;omega) h1 h2 h3
  | lim g left=>
   obtain⟨b,u,cs,rfl,rest⟩:=id h;obtain⟨rfl,rfl,rfl⟩:=(MetOk.mk rfl (nil_lim _) (met_lim _) ent_lim).one hM;exact limit_next ih base B o b t w g left bs h ht hB (by simpa [wtF] using hu)
  | mix l=>
   obtain⟨b,g,cap,us,cs,rfl,rest⟩:=id h;obtain⟨rfl,rfl,rfl⟩:=(MetOk.mk rfl (nil_mix _) (met_mix _) ent_mix).one hM;exact mix_next ih base B o b t w l bs h ht hB hu
  | thn l=>
   obtain⟨b,r,g,us,cs,rfl,rest⟩:=id h;obtain⟨rfl,rfl,rfl⟩:=(MetOk.mk rfl (nil_thn _) (met_thn _) ent_thn).one hM;exact then_next ih base B o b t w l bs h ht hB hu
end Go.Proofs.YtjpklmighoondaaGreatDoor.Gn
