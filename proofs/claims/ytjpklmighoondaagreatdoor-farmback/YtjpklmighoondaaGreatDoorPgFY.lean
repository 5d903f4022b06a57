/-
  The statement FarmBack, walked.
  Proved: whatever plan and tape are handed in, the statement FarmBack (a report is read again from its page; chapter 20) returns true, and what was handed in reads behind the call as before; the listed variables (model.known among them) hold what the text lays.
-/
import Derived.Test.YtjpklmighoondaaGreatDoorLinesIY
import Derived.Test.YtjpklmighoondaaGreatDoorFaYY
import Derived.Test.YtjpklmighoondaaGreatDoorOpenFY
import Derived.Test.YtjpklmighoondaaGreatDoorJfFarmBackY
set_option maxRecDepth 100000
namespace Go.Proofs.YtjpklmighoondaaGreatDoor.Fa
open Go.RowKit Pg
theorem search_bud (o:Int) (ops:List Opn) (bud:Nat):(searchM (srB o ops bud)).ent.length≤bud:=visit_bud (c:=srB o ops bud) _ _ _ _ (Nat.zero_le _)
set_option maxHeartbeats 8000000 in
theorem back_any (n k ask tell:Int) (back:Bool) (ti:Gn.Bt) (ge:Gn.Bt) (bud:Int) (a:Option Addr) (cap:Nat) (l:List Int) (w:World) (m:Int) (hcap:l.length≤cap)
  (hl:l= []∨∃b off,a=some ⟨b,off,none⟩∧b < w.heap.size∧∀i,(h:i < l.length)→w.cell? ⟨b,off+i,none⟩=some (.int .i64 l[i])) (hv:Gn.ErrV w) (hp:Gn.PowT w) (hK:KnownAt w) (hm:w.cell? ⟨1,0,none⟩=some (.int .i64 m)):
  Calls Tryz.prog 4 #[.agg #[.int .i64 n,.int .i64 k,.int .i64 ask,.int .i64 tell,.bool back,.string (Gn.ba ti),.string (Gn.ba ge),.int .i64 bud],.slice a l.length cap] w fun e w'=>e=.returned (.bool true)∧Below w.heap.size w w':=by
 have hpos:0 < w.heap.size:=World.block_lt_of_cell? w ⟨0,0*13+0,none⟩ (hK 0 0 (by decide) (by decide));have hsz:=Gn.ba_size ge;have hst:=Gn.ba_size ti;have hX0:Below w.heap.size w (w.alloc (.cells #[.int .i64 n,.int .i64 k,.int .i64 ask,.int .i64 tell,.bool back,.string (Gn.ba ti),.string (Gn.ba ge),.int .i64 bud] 25)):=St.belA (Below.refl _ _) _;have HB0:=hideIt hX0;by_cases h200:200 < l.length
 ·clear hv hp hm hK hpos hl;go_enter Tryz.func4,Tryz.ntmps4
  go_wp2;go_ret;exact⟨rfl,HB0.out⟩
 by_cases h500:500 < ge.length
 ·clear hv hp hm hK hpos hl;go_enter Tryz.func4,Tryz.ntmps4
  go_wp2;go_ret;exact⟨rfl,HB0.out⟩
 by_cases h900:900 < ti.length
 ·clear hv hp hm hK hpos hl;go_enter Tryz.func4,Tryz.ntmps4
  go_wp2;go_ret;exact⟨rfl,HB0.out⟩
 have hd1:decide ((200:Int) < (l.length:Int))=false:=decide_eq_false (by omega);have hd2:decide ((500:Int) < (ge.length:Int))=false:=decide_eq_false (by omega);have hd3:decide ((900:Int) < (ti.length:Int))=false:=decide_eq_false (by omega);have HTr:Hid (∀Z,Below w.heap.size w Z→Calls Tryz.prog 6 #[] Z fun e w'=>e=.returned (.bool true)∧Below Z.heap.size Z w'):=fun Z hZ=>
  tried_any m Z (hv.fr (Gn.fr_below hZ []) (by simp) (by simp)) (hp.fr (Gn.fr_below hZ []) (by simp)) ((hZ.cell (p:=⟨1,0,none⟩) (World.block_lt_of_cell? w _ hm)).trans hm) (hK.below hpos hZ)
 have HRn:Hid (∀Z (b2:Int),Below w.heap.size w Z→Calls Tryz.prog 9 #[.agg #[.int .i64 n,.int .i64 k,.int .i64 ask,.int .i64 tell,.bool back,.string (Gn.ba ti),.string (Gn.ba ge),.int .i64 b2],.slice a l.length cap] Z (RunTold n k ask tell back (Gn.ba ti) ge b2 l Z)):=fun Z b2 hZ=>
  run_any n k ask tell back (Gn.ba ti) ge b2 a cap l Z (by omega) hcap (hl.imp id fun⟨b,off,e,hb,hh⟩=>⟨b,off,e,Nat.lt_of_lt_of_le hb hZ.size,fun i hi=>(hZ.cell (p:=⟨b,off+i,none⟩) hb).trans (hh i hi)⟩) (hv.fr (Gn.fr_below hZ []) (by simp) (by simp)) (hK.below hpos hZ)
 have HV:Hid (∀Z,Below w.heap.size w Z→Gn.ErrV Z∧Gn.PowT Z∧Z.cell? ⟨1,0,none⟩=some (.int .i64 m)):=fun Z hZ=>⟨hv.fr (Gn.fr_below hZ []) (by simp) (by simp),hp.fr (Gn.fr_below hZ []) (by simp),(hZ.cell (p:=⟨1,0,none⟩) (World.block_lt_of_cell? w _ hm)).trans hm⟩
 have HPk:Hid (∀Z,Calls Tryz.prog 10 #[.int .i64 bud,.int .i64 1000] Z fun e w'=>e=.returned (.int .i64 (pickN bud 1000))∧w'=Z):=fun Z=>pick_is bud 1000 Z (by decide) (by decide)
 have hP0:(w.alloc (.cells #[.int .i64 n,.int .i64 k,.int .i64 ask,.int .i64 tell,.bool back,.string (Gn.ba ti),.string (Gn.ba ge),.int .i64 bud] 25)).heap[w.heap.size]?=some (.cells #[.int .i64 n,.int .i64 k,.int .i64 ask,.int .i64 tell,.bool back,.string (Gn.ba ti),.string (Gn.ba ge),.int .i64 bud] 25 (0,0)):=heap_alloc_new w _;have HP0:=hideIt hP0;clear hv hp hm hK hpos hl h200 h500 hcap hX0 hP0;go_enter Tryz.func4,Tryz.ntmps4
 go_upto_region 3 with fail
 generalize (w.alloc (.cells #[.int .i64 n,.int .i64 k,.int .i64 ask,.int .i64 tell,.bool back,.string (Gn.ba ti),.string (Gn.ba ge),.int .i64 bud] 25))=X at*
 obtain⟨c0,c1,c2,c3,c4,c5,c6,c7⟩:X.cell? ⟨w.heap.size,0,none⟩=some (.int .i64 n)∧X.cell? ⟨w.heap.size,1,none⟩=some (.int .i64 k)∧X.cell? ⟨w.heap.size,2,none⟩=some (.int .i64 ask)∧X.cell? ⟨w.heap.size,3,none⟩=some (.int .i64 tell)∧X.cell? ⟨w.heap.size,4,none⟩=some (.bool back)∧X.cell? ⟨w.heap.size,5,none⟩=some (.string (Gn.ba ti))∧X.cell? ⟨w.heap.size,6,none⟩=some (.string (Gn.ba ge))∧X.cell? ⟨w.heap.size,7,none⟩=some (.int .i64 bud):=
  ⟨by rw[cell_of_row _ _ _ _ 25 _ HP0.out];rfl,by rw[cell_of_row _ _ _ _ 25 _ HP0.out];rfl,by rw[cell_of_row _ _ _ _ 25 _ HP0.out];rfl,by rw[cell_of_row _ _ _ _ 25 _ HP0.out];rfl,by rw[cell_of_row _ _ _ _ 25 _ HP0.out];rfl,by rw[cell_of_row _ _ _ _ 25 _ HP0.out];rfl,by rw[cell_of_row _ _ _ _ 25 _ HP0.out];rfl,by rw[cell_of_row _ _ _ _ 25 _ HP0.out];rfl⟩
 have f7:X.frozen? ⟨w.heap.size,7,none⟩=false:=frozen_of_row _ _ _ _ 25 HP0.out;go_wp2
 go_loop [5] (fun i=>∃j:Nat,j≤ti.length∧i=.int .i64 j∧∀x,x < j→ti[x]?≠some 10) (fun i=>ti.length - (intOf i).toNat)
 case atStart=>exact⟨0,Nat.zero_le _,rfl,fun x hx=>absurd hx (Nat.not_lt_zero _)⟩
 case round=>
  obtain⟨j,hj,rfl,hno⟩:=hrel;by_cases hjl:j < ti.length
  ·have k1:(0:Int)≤(j:Int):=by omega
   have k2:(j:Int) < (ti.length:Int):=by omega
   have k3:decide ((j:Int) < (ti.length:Int))=true:=decide_eq_true k2;go_wp2
   ·go_ret;exact⟨rfl,HB0.out⟩
   ·rename_i hh
    refine⟨⟨j+1,by omega,by go_num,fun x hx=>?_⟩,by simp[intOf];omega⟩;by_cases e:x < j
    ·exact hno x e
    ·obtain rfl:x=j:=by omega
     intro e2;rw[List.getElem?_eq_getElem hjl] at e2;have e3:(Gn.ba ti)[x]'(by rw[hst];exact hjl)=10:=Option.some.inj e2;rw[e3] at hh
     revert hh
     decide
  ·have HN10:Hid ((10:UInt8)∉ti):=fun hmem=>by
    obtain⟨x,hx,e⟩:=List.getElem_of_mem hmem;exact hno x (by omega) (by rw[List.getElem?_eq_getElem hx,e])
   have k3:decide ((j:Int) < (ti.length:Int))=false:=decide_eq_false (by omega);clear hno;go_wp2_with fail
   refine(HPk.out _).mono ?_;rintro e X' ⟨rfl,rfl⟩;have hpk:=pick_lt bud 1000 (by decide);generalize pickN bud 1000=pb at*
   have hPY:=heap_setCell_same X' w.heap.size 7 _ 25 (.int .i64 (pb:Int)) HP0.out;have hY:Below w.heap.size w (X'.setCell ⟨w.heap.size,7,none⟩ (.int .i64 (pb:Int))):=HB0.out.setCell (p:=⟨w.heap.size,7,none⟩) (Nat.le_refl _) _;have HPY:=hideIt hPY;have HY:=hideIt hY;have HPb:=hideIt hpk;clear hPY hY hpk HPk HP0;go_upto_region 9 with fail
   generalize X'.setCell ⟨w.heap.size,7,none⟩ (.int .i64 (pb:Int))=Y at*
   clear c0 c1 c2 c3 c4 c5 c6 c7 f7;obtain⟨c0,c1,c2,c3,c4,c5,c6,c7⟩:Y.cell? ⟨w.heap.size,0,none⟩=some (.int .i64 n)∧Y.cell? ⟨w.heap.size,1,none⟩=some (.int .i64 k)∧Y.cell? ⟨w.heap.size,2,none⟩=some (.int .i64 ask)∧Y.cell? ⟨w.heap.size,3,none⟩=some (.int .i64 tell)∧Y.cell? ⟨w.heap.size,4,none⟩=some (.bool back)∧Y.cell? ⟨w.heap.size,5,none⟩=some (.string (Gn.ba ti))∧Y.cell? ⟨w.heap.size,6,none⟩=some (.string (Gn.ba ge))∧Y.cell? ⟨w.heap.size,7,none⟩=some (.int .i64 (pb:Int)):=
    ⟨by rw[cell_of_row _ _ _ _ 25 _ HPY.out];rfl,by rw[cell_of_row _ _ _ _ 25 _ HPY.out];rfl,by rw[cell_of_row _ _ _ _ 25 _ HPY.out];rfl,by rw[cell_of_row _ _ _ _ 25 _ HPY.out];rfl,by rw[cell_of_row _ _ _ _ 25 _ HPY.out];rfl,by rw[cell_of_row _ _ _ _ 25 _ HPY.out];rfl,by rw[cell_of_row _ _ _ _ 25 _ HPY.out];rfl,by rw[cell_of_row _ _ _ _ 25 _ HPY.out];rfl⟩
   have HRy:=hideIt (HRn.out Y (pb:Int) HY.out);have H9:=hideIt h900;clear HRn hd1 hd2 hd3 k3 h900 HPY hj hjl;go_wp2_with fail
   refine HRy.out.mono ?_;rintro e W1 htold;clear HRy c0 c1 c2 c3 c4 c5 c6 c7;rcases htold with ⟨Ty,x,rfl,_,hb1⟩ | ⟨_,n2,k2,a2,t2,e1,e2,e3,e4,_,g,T1,T2,b,_,_,_,hb,hG,hok,hb1,v',L,ho,hO,h40,ov,rfl,ho1,ho2⟩
   ·have HX:=hideIt (St.belA (St.belJ HY.out hb1) rep0C);have HXr:Hid ((W1.alloc rep0C).heap[W1.heap.size]?=some (.cells #[.string ⟨#[]⟩,.slice none 0 0,.int .i64 0,.slice none 0 0,.int .i64 0] 36 (0,0))):=heap_alloc_new W1 _;clear hb1;unfold rep0;go_wp2_with fail
    refine(HTr.out _ HX.out).mono ?_;rintro e W2 ⟨rfl,hb2⟩;have HX2:=hideIt (St.belJ HX.out hb2);have HR2:=hideIt ((hb2.block W1.heap.size (by rw[World.size_alloc];omega)).trans HXr.out);clear hb2 HXr;go_wp2_with fail
    refine(HTr.out _ HX2.out).mono ?_;rintro e W3 ⟨rfl,hb3⟩;have HX3:=hideIt (St.belJ HX2.out hb3);have d2:W3.cell? ⟨W1.heap.size,2,none⟩=some (.int .i64 0):=by
     rw[cell_of_row _ _ _ _ 36 _ ((hb3.block W1.heap.size (lt_of_heap HR2.out)).trans HR2.out)];rfl
    clear hb3;go_wp2;go_ret;exact⟨rfl,HX3.out⟩
   obtain⟨hok1,hok2,_⟩:=hok;obtain⟨oa,oc,ord,rfl,hI,h40o,hob⟩:∃a c,∃ord:List Int,ov=.slice a ord.length c∧HasInts W1 ov ord∧ord.length≤40∧∀n∈ord,-1000000≤n∧n≤1000000:=by
    by_cases h1:(searchM (srB 1 L (pb:Int).toNat)).code=1
    ·obtain⟨a,c,e⟩:=St.ownsRow_slice (ho1 h1);have hs:=valid_shows h1;have hl:=valid_len h1;exact⟨a,c,iL (searchM (srB 1 L (pb:Int).toNat)).ord,by rw[iL_length];exact e,ord_has (ho1 h1),by rw[iL_length];omega,fun n hn=>by have:=hs.range n hn;omega⟩
    ·refine⟨none,0,[],ho2 h1,?_,by simp,fun n hn=>by simp at hn⟩;rw[ho2 h1];exact nil_has W1
   have hcd:1≤(searchM (srB 1 L (pb:Int).toNat)).code∧(searchM (srB 1 L (pb:Int).toNat)).code≤3:=by
    rcases search_code (srB 1 L (pb:Int).toNat) with h | h | h<;>omega
   have hel:(searchM (srB 1 L (pb:Int).toNat)).ent.length≤1000000:=by
    have:=search_bud 1 L (pb:Int).toNat;have:=HPb.out;omega
   have hf:∀e∈T2.p.evs.map toEv,e.fault=0:=fun e he=>by
    obtain⟨i,hi,rfl⟩:=List.getElem_of_mem he;have:=hok2 i hi hi;unfold seeN at this;by_cases h:(T2.p.evs.map toEv)[i].fault≠0
    ·rw[if_pos h] at this;exact absurd this h
    ·exact Classical.not_not.1 h
   obtain⟨va,vc,rfl,hin⟩:=evs_in ho;have hX:=St.belA (St.belJ HY.out hb1) (.cells #[.string (Gn.ba ti),.slice va (T2.p.evs.map toEv).length vc,.int .i64 ((searchM (srB 1 L (pb:Int).toNat)).code:Int),.slice oa ord.length oc,.int .i64 ((searchM (srB 1 L (pb:Int).toNat)).ent.length:Int)] 36);have hXr:(W1.alloc (.cells #[.string (Gn.ba ti),.slice va (T2.p.evs.map toEv).length vc,.int .i64 ((searchM (srB 1 L (pb:Int).toNat)).code:Int),.slice oa ord.length oc,.int .i64 ((searchM (srB 1 L (pb:Int).toNat)).ent.length:Int)] 36)).heap[W1.heap.size]?=some (.cells #[.string (Gn.ba ti),.slice va (T2.p.evs.map toEv).length vc,.int .i64 ((searchM (srB 1 L (pb:Int).toNat)).code:Int),.slice oa ord.length oc,.int .i64 ((searchM (srB 1 L (pb:Int).toNat)).ent.length:Int)] 36 (0,0)):=heap_alloc_new W1 _;have hXb:Below W1.heap.size W1 (W1.alloc (.cells #[.string (Gn.ba ti),.slice va (T2.p.evs.map toEv).length vc,.int .i64 ((searchM (srB 1 L (pb:Int).toNat)).code:Int),.slice oa ord.length oc,.int .i64 ((searchM (srB 1 L (pb:Int).toNat)).ent.length:Int)] 36)):=St.belA (Below.refl _ _) _;have hl120:(T2.p.evs.map toEv).length≤120:=by rw[List.length_map];exact hok1
   generalize T2.p.evs.map toEv=lv at*
   generalize (searchM (srB 1 L (pb:Int).toNat)).ent.length=el at*
   generalize (searchM (srB 1 L (pb:Int).toNat)).code=cd at*
   have HX:=hideIt (And.intro hX (And.intro hXr hXb));have HIn:=hideIt hin;have HI:=hideIt hI;have HFa:=hideIt (And.intro hl120 (And.intro hf (And.intro hcd (And.intro hel (And.intro h40o hob)))));clear hb1 ho hO h40 ho1 ho2 hok1 hok2 hb hG e1 e2 e3 e4 hin hI hl120 hf hcd hel h40o hob hX hXr hXb HPb;go_wp2_with fail
   refine(HTr.out _ HX.out.1).mono ?_;rintro e W2 ⟨rfl,hb2⟩;have h2:=St.belJ HX.out.1 hb2;have hr2:=(hb2.block W1.heap.size (lt_of_heap HX.out.2.1)).trans HX.out.2.1;have hb12:=St.belJ HX.out.2.2 hb2;have hin2:lv= []∨∃b,va=some ⟨b,0,none⟩∧b < W2.heap.size∧EvsAt W2 b 0 lv:=HIn.out.imp id fun⟨b,e,hb,hE⟩=>⟨b,e,Nat.lt_of_lt_of_le hb hb12.size,hE.below hb hb12⟩
   have hI2:=HI.out.below hb12;have row5:∀Z:World,Z.heap[W1.heap.size]?=some (.cells #[.string (Gn.ba ti),.slice va lv.length vc,.int .i64 (cd:Int),.slice oa ord.length oc,.int .i64 (el:Int)] 36 (0,0))→Z.cell? ⟨W1.heap.size,0,none⟩=some (.string (Gn.ba ti))∧Z.cell? ⟨W1.heap.size,1,none⟩=some (.slice va lv.length vc)∧Z.cell? ⟨W1.heap.size,2,none⟩=some (.int .i64 (cd:Int))∧Z.cell? ⟨W1.heap.size,3,none⟩=some (.slice oa ord.length oc)∧Z.cell? ⟨W1.heap.size,4,none⟩=some (.int .i64 (el:Int)):=fun Z e=>
    ⟨by rw[cell_of_row _ _ _ _ 36 _ e];rfl,by rw[cell_of_row _ _ _ _ 36 _ e];rfl,by rw[cell_of_row _ _ _ _ 36 _ e];rfl,by rw[cell_of_row _ _ _ _ 36 _ e];rfl,by rw[cell_of_row _ _ _ _ 36 _ e];rfl⟩
   obtain⟨d0,d1,d2,d3,d4⟩:=row5 W2 hr2;have HR5:=hideIt row5;have HPg:=hideIt (page_any ti lv cd el ord va oa vc oc W2 m (by have:=H9.out;omega) HFa.out.1 HFa.out.2.1 hin2 HFa.out.2.2.1 HFa.out.2.2.2.1 hI2 HFa.out.2.2.2.2.1 HFa.out.2.2.2.2.2 (HV.out W2 h2).2.1 (HV.out W2 h2).2.2);have H2:=hideIt (And.intro h2 (And.intro hr2 (And.intro hin2 hI2)));clear hb2 h2 hr2 hb12 hin2 hI2 row5 HIn HI HX HTr;go_wp2_with fail
   refine HPg.out.mono ?_;rintro e W3 ⟨rfl,hb3⟩;have h3:=St.belJ H2.out.1 hb3;have HRd:=hideIt (read_any ti lv cd el ord m W3 (by have:=H9.out;omega) HN10.out HFa.out.1 HFa.out.2.1 HFa.out.2.2.1 HFa.out.2.2.2.1 HFa.out.2.2.2.2.1 HFa.out.2.2.2.2.2 (HV.out W3 h3).1 (HV.out W3 h3).2.1 (HV.out W3 h3).2.2);have hr3:=(hb3.block W1.heap.size (lt_of_heap H2.out.2.1)).trans H2.out.2.1;have hin3:lv= []∨∃b,va=some ⟨b,0,none⟩∧b < W3.heap.size∧EvsAt W3 b 0 lv:=H2.out.2.2.1.imp id fun⟨b,e,hb,hE⟩=>⟨b,e,Nat.lt_of_lt_of_le hb hb3.size,hE.below hb hb3⟩
   have H3:=hideIt (And.intro h3 (And.intro hr3 (And.intro hin3 (H2.out.2.2.2.below hb3))));clear hb3 h3 hr3 hin3 d0 d1 d2 d3 d4 H2 HPg;go_wp2_with fail
   refine HRd.out.mono ?_;rintro e W4 ⟨ev,ov,rfl,hev,hov,hb4⟩;obtain⟨ea,ec,rfl⟩:=St.ownsRow_slice hev;obtain⟨xa,xc,rfl⟩:=St.ownsRow_slice hov;have h4:=St.belJ H3.out.1 hb4;have hr4:=(hb4.block W1.heap.size (lt_of_heap H3.out.2.1)).trans H3.out.2.1;have hin4:lv= []∨∃b,va=some ⟨b,0,none⟩∧b < W4.heap.size∧EvsAt W4 b 0 lv:=H3.out.2.2.1.imp id fun⟨b,e,hb,hE⟩=>⟨b,e,Nat.lt_of_lt_of_le hb hb4.size,hE.below hb hb4⟩
   have hI4:=H3.out.2.2.2.below hb4;have hxI:=ints_in hov;have hxE:lv= []∨∃b,ea=some ⟨b,0,none⟩∧b < W4.heap.size∧EvsAt W4 b 0 lv:=by
    obtain⟨a,c,e,h⟩:=rows_in hev;cases e;exact h
   have hZb:Below W4.heap.size W4 (W4.alloc (.cells #[.string (Gn.ba ti),.slice ea lv.length ec,.int .i64 (cd:Int),.slice xa ord.length xc,.int .i64 (el:Int)] 36)):=St.belA (Below.refl _ _) _;have hZ:=St.belJ h4 hZb;have hZr:=(hZb.block W1.heap.size (lt_of_heap hr4)).trans hr4;have hZx:=heap_alloc_new W4 (.cells #[.string (Gn.ba ti),.slice ea lv.length ec,.int .i64 (cd:Int),.slice xa ord.length xc,.int .i64 (el:Int)] 36);have up:∀{u:Option Addr},(lv= []∨∃b,u=some ⟨b,0,none⟩∧b < W4.heap.size∧EvsAt W4 b 0 lv)→∀Z,Below W4.heap.size W4 Z→(lv= []∨∃b,u=some ⟨b,0,none⟩∧b < Z.heap.size∧EvsAt Z b 0 lv):=fun h Z hZ=>h.imp id fun⟨b,e,hb,hE⟩=>⟨b,e,Nat.lt_of_lt_of_le hb hZ.size,hE.below hb hZ⟩
   have HSI:=hideIt (ints_same xa oa xc oc ord _ (hxI.below hZb) (hI4.below hZb) (by have:=HFa.out.2.2.2.2.1;omega));have HBg:=hideIt (fun Z (h:Below W4.heap.size W4 Z)=>begins_same ea va ec vc lv Z (up hxE Z h) (up hin4 Z h) (by have:=HFa.out.1;omega));have HZ:=hideIt (And.intro hZ (And.intro hZr (And.intro hZx hZb)));have q1:((cd:Int) != (cd:Int))=false:=by simp
   have q2:((el:Int) != (el:Int))=false:=by simp
   have q3:((Gn.ba ti).toList==(Gn.ba ti).toList)=true:=beq_self_eq_true _;have q4:((lv.length:Int)==(lv.length:Int))=true:=by simp
   clear hev hov hb4 h4 hr4 hin4 hI4 hxI hxE hZb hZ hZr hZx up H3 HRd;go_upto_region 16 with fail
   have hdr:∀(Z:World) (q:Nat),Below W4.heap.size W4 Z→Below W4.heap.size W4 (Z.drewN q):=fun Z q h=>St.belJ h (Pg.below_drewN Z q)
   have HDr:=hideIt hdr;clear hdr;generalize hXb:W4.heap.size=B4 at*
   generalize W4.alloc (.cells #[.string (Gn.ba ti),.slice ea lv.length ec,.int .i64 (cd:Int),.slice xa ord.length xc,.int .i64 (el:Int)] 36)=Z at*
   obtain⟨d0,d1,d2,d3,d4⟩:=HR5.out Z HZ.out.2.1;obtain⟨x0,x1,x2,x3,x4⟩:Z.cell? ⟨B4,0,none⟩=some (.string (Gn.ba ti))∧Z.cell? ⟨B4,1,none⟩=some (.slice ea lv.length ec)∧Z.cell? ⟨B4,2,none⟩=some (.int .i64 (cd:Int))∧Z.cell? ⟨B4,3,none⟩=some (.slice xa ord.length xc)∧Z.cell? ⟨B4,4,none⟩=some (.int .i64 (el:Int)):=
    ⟨by rw[cell_of_row _ _ _ _ 36 _ HZ.out.2.2.1];rfl,by rw[cell_of_row _ _ _ _ 36 _ HZ.out.2.2.1];rfl,by rw[cell_of_row _ _ _ _ 36 _ HZ.out.2.2.1];rfl,by rw[cell_of_row _ _ _ _ 36 _ HZ.out.2.2.1];rfl,by rw[cell_of_row _ _ _ _ 36 _ HZ.out.2.2.1];rfl⟩
   go_wp2_with fail
   refine HSI.out.mono ?_;rintro e Z2 ⟨rfl,q,rfl⟩;have HBz:=hideIt (HBg.out (Z.drewN q) (HDr.out Z q HZ.out.2.2.2));go_wp2_with fail
   refine HBz.out.mono ?_;rintro e Z3 ⟨rfl,q5,rfl⟩;go_wp2;go_ret;exact⟨rfl,St.belJ HZ.out.1 (Pg.below_drewN Z (q+q5))⟩
end Go.Proofs.YtjpklmighoondaaGreatDoor.Fa
namespace Go.Proofs.YtjpklmighoondaaGreatDoor
open Go.ChangeShapes Go.WideShapes Go.ChangeAt Go.RowKit
theorem readFarmBack:∀t∈ [25,26],Tryz.prog.readableRec t=true∧t < Tryz.prog.types.size:=by
 intro t ht;simp only[List.mem_cons,List.not_mem_nil,or_false] at ht;rcases ht with rfl | rfl<;>exact⟨by kernel_rfl,of_decide_eq_true (by kernel_rfl)⟩
theorem farmBack_contract {H:Type} {enc:TypeId×Value→H} (W:World) (base:Nat) (args:Array Value) (ds gs:List (DataW H)) (before:List MemPlace)
  (hval0:∀(j:Nat) t v,Tryz.f4.params[j]?=some t→args[j]?=some v→Value.okWide Tryz.prog W .any base t v)
  (hW:DataW.Whole enc Tryz.prog Tryz.f4.params.toList Rows.farmBackSpec.vars false W args.toList ds gs before) (hL:laidMetH Tryz.prog laidA W) (hsh:W.ShapedOpen Tryz.prog):
  Calls Tryz.prog 4 args W fun e W'=>∃v,e=.returned v∧Rows.farmBackSpec.post enc Tryz.prog Tryz.f4 false true false false W args v W':=by
 have hval:∀(j:Nat) t v,Tryz.f4.params[j]?=some t→args[j]?=some v→Value.okWide Tryz.prog W .any base t v:=hval0;have hW':=hW;obtain⟨p,q,hA0,hV,rfl,hfz,hnd⟩:=hW;have hA:DataW.TrodAll enc Tryz.prog W 0 (fun _=>true) true Tryz.f4.params.toList args.toList ds p:=hA0;rw[Tryz.params4] at hA hval;have hA1:=hA;obtain⟨v0,vs0,d0,ds0,p0,q0,e0,rfl,rfl,h0,hA⟩:=trodAll_cons hA;obtain⟨v1,vs1,d1,ds1,p1,q1,rfl,rfl,rfl,h1,hA⟩:=trodAll_cons hA;obtain⟨rfl,rfl,rfl⟩:=trodAll_nil hA;obtain rfl:args=#[v0,v1]:=by
  rw[←Array.toArray_toList (xs:=args),e0]
 obtain⟨rfl,rfl⟩:=trodVars_none hV;obtain⟨n0,k0,a0,t0,b0,ti,ge,bud,rfl⟩:=plan_of_Trod (okWide_struct Tryz.underlying25 (hval 0 25 v0 rfl rfl)) h0;obtain⟨A1,len1,cap1,rfl⟩:=okWide_slice Tryz.underlying26 (hval 1 26 v1 rfl rfl);obtain⟨l1,hlen1,⟨A2,cap2,hsl,hcp,hq1⟩,hb1⟩:=Gn.ints_of_Trod h1;obtain⟨rfl,rfl,rfl⟩:A1=A2∧len1=l1.length∧cap1=cap2:=by simpa using hsl
 obtain⟨m,hm⟩:=maxLen_of hsh;clear hA0 hval0;refine(Fa.back_any n0 k0 a0 t0 b0 ti.data.toList ge bud A1 cap1 l1 W m hcp hq1 (errV_of hL) (powT_of hL) (knownA hL) hm).mono fun e W' ⟨he,bel⟩=>?_
 subst he;exact⟨_,rfl,_,_,_,[],_,[],hW',trodAll_mk1 (shut_bool Tryz.underlying4 _),trodAll_belowP laidOut bel readFarmBack hA1,rfl,bel.frame _,fun h=>by cases h⟩
theorem farmBack_lifted (os:Os) (started:os.Started) (H:Type) (enc:TypeId×Value→H):
  ReturnsInHanded {} Tryz.checked os 4 .any (fun w args=>(Rows.farmBackSpec.pre enc Tryz.prog Tryz.f4 [] false w args∧laidMetH Tryz.prog laidA w)∧sizedMet enc Tryz.prog Tryz.f4 (OpenSpec.ofChange Rows.farmBackSpec) false w args)
   (Rows.farmBackSpec.post enc Tryz.prog Tryz.f4 false true false false):=by
 refine returnsInHanded_of_calls (C:=Tryz.checked) own started (by kernel_rfl)
  (ChangeSpec.witness_shaped (enc:=enc) (C:=Tryz.checked) (os:=os) (X:=fun w _=>laidMetH Tryz.prog laidA w) false (wA os) #[.agg #[.int .i64 0,.int .i64 0,.int .i64 0,.int .i64 0,.bool false,.string ⟨#[]⟩,.string ⟨#[]⟩,.int .i64 0],.slice none 0 0] 8 (wA_os os) (laidA_shaped os) (by kernel_rfl) (by kernel_rfl) (by kernel_rfl) (laidA_met os _)) ?_
 intro w tape i _ hsh _ hok hpre _;obtain⟨_,_,_,fn',hfn',_,_,_,_,hval⟩:=hok;obtain rfl:fn'=Tryz.f4:=Option.some.inj (hfn'.symm.trans Tryz.func4);obtain⟨⟨⟨ds,gs,before,hw,_⟩,hx⟩,_⟩:=hpre;have hW:=DataW.Whole.of_heap (w':=w.forCall tape i) (by rfl) hw;refine(farmBack_contract (w.forCall tape i) w.heap.size i.args ds gs before hval hW (hx.of_heap (by rfl)) hsh).mono fun e W' ⟨v,he,hp⟩=>?_
 subst he;exact ChangeSpec.post_blind hp
theorem farmBack_row:Rows.FarmBackSaid:=
 OpenClaim.holds_of_wide 4 Tryz.f4 rfl rfl rfl rfl rfl rfl rfl ⟨rfl,rfl,rfl,rfl,rfl⟩ rfl rfl rfl rfl rfl (by kernel_rfl) Tryz.func4 farmBack_joined
  (of_decide_eq_true (by kernel_rfl)) (by unfold Func.isWrapper;rw[if_neg (of_decide_eq_false (by kernel_rfl))];exact⟨rfl,rfl⟩)
  (fun os started H enc _=>farmBack_lifted os started H enc)
theorem farmBack_holds:Rows.FarmBackCardSaid:=
 Claim7.holds_tied_plain_at .later [] [.data, .data, .data, .data, .handle, .sentinel, .sentinel, .data, .pinned] true (true, "22a00dc201a387e2ffc145e951c482bb66fd17c913bf19988b1e823f298528d6") true
  farmBack_row (fun _ h=>by cases h) (by kernel_rfl) (fun _ h=>by cases h) farmBack_row_tie rfl ⟨rfl,rfl⟩ (by kernel_rfl) rfl
  (fun f fn hf hfn=>by
   obtain rfl : f = 4 := Option.some.inj ((show Tryz.prog.funcNamed "testimony/testimonykeep.FarmBack" = some 4 by kernel_rfl).symm.trans hf) |>.symm
   obtain rfl:fn=Tryz.f4:=(Option.some.inj (Tryz.func4.symm.trans hfn)).symm;exact⟨by kernel_rfl,fun j t ht=>by
    rw[Tryz.params4] at ht;have hm:t∈ [25,26]:=by simpa using Array.mem_of_getElem? ht
    have hall:([25,26].all fun u=> !Tryz.prog.wantsStandIn u)=true:=by kernel_rfl
    exact(show Tryz.prog.wantsStandIn t=false by simpa using List.all_eq_true.1 hall t hm)⟩)
  (by kernel_rfl)
#print axioms farmBack_holds
end Go.Proofs.YtjpklmighoondaaGreatDoor
