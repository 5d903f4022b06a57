/-
  A plan that is tried, walked: Run.
  The fact that the statements of chapter 20 hold ahead: a plan of one write (plain).
  A plan's text, walked: numbers in a line.
-/
import Derived.Test.YtjpklmighoondaaGreatDoorRdGZ
import Derived.Test.YtjpklmighoondaaGreatDoorNuWZ
namespace Go.Proofs.YtjpklmighoondaaGreatDoor.Fa
open Go.RowKit
def okBud (x:Int):Bool:=decide (0≤x)&&decide (x≤1000000)
set_option maxRecDepth 100000 in
theorem isBudget_any (x:Int) (w:World):Calls Tryz.prog 18 #[.int .i64 x] w fun e w'=>e=.returned (.bool (okBud x))∧w'=w:=by
 by_cases h0:0≤x
 ·by_cases h1:x≤1000000
  ·have e:Hid (okBud x=true):=by show okBud x=true;simp[okBud,h0,h1]
   go_enter Tryz.func18,Tryz.ntmps18
   go_wp2;go_ret;exact⟨by rw[e.out];rfl,rfl⟩
  ·have e:Hid (okBud x=false):=by show okBud x=false;simp[okBud,h1]
   go_enter Tryz.func18,Tryz.ntmps18
   go_wp2;go_ret;exact⟨by rw[e.out];rfl,rfl⟩
 ·have e:Hid (okBud x=false):=by show okBud x=false;simp[okBud,h0]
  go_enter Tryz.func18,Tryz.ntmps18
  go_wp2;go_ret;exact⟨by rw[e.out];rfl,rfl⟩
section
variable {w0 W W' : World} {Bt : Nat} {K : St.StK} {v : Value} {bs : List Nat} {ti : ByteArray} {bud : Int} {T : Trl} {P0 : St.Pst} {S0 : Sto}
set_option maxRecDepth 100000 in
theorem used_any (h:TrW w0 W Bt K v bs ti bud T):Calls Tryz.prog 21 #[.pointer (some ⟨Bt,10,none⟩)] W fun e w'=>e=.returned (.int .i64 (T.t.u:Int))∧w'=W:=by
 have c11:=h.tp.used;clear h;go_enter Tryz.func21,Tryz.ntmps21
 go_wp2;go_ret;exact⟨rfl,rfl⟩
end
def WhyNot (n k ask tell:Int) (back:Bool) (ge:Gn.Bt) (bud:Int) (l:List Int):Prop:=
 okBud bud=false∨¬St.checkC n k ask tell=0∨Gn.parseF ge=none∨∃(nn kk aa tt b:Nat) (g:Gn.Gt) (T1 T2:Trl),n=nn∧k=kk∧ask=aa∧tell=tt∧Gn.parseF ge=some g∧Mvd l.length (T00 nn kk aa tt back g l) T1∧Fin (T1.play ⟨6,0,0,0⟩) T2∧Gd (St.pst0 nn kk aa tt back) (sto0 nn kk aa tt back) b T2∧¬RepOk bud T2.p
def RunTold (n k ask tell:Int) (back:Bool) (ti:ByteArray) (ge:Gn.Bt) (bud:Int) (l:List Int) (w:World) (e:Ending) (w':World):Prop:=
 (∃T x,e=.returned (.tuple #[rep0,.iface T x])∧WhyNot n k ask tell back ge bud l∧Below w.heap.size w w')∨
 (okBud bud=true∧∃(nn kk aa tt:Nat),n=nn∧k=kk∧ask=aa∧tell=tt∧St.checkC n k ask tell=0∧∃g T1 T2 b,Gn.parseF ge=some g∧Mvd l.length (T00 nn kk aa tt back g l) T1∧Fin (T1.play ⟨6,0,0,0⟩) T2∧b≤4000∧Gd (St.pst0 nn kk aa tt back) (sto0 nn kk aa tt back) b T2∧RepOk bud T2.p∧RepGood ti bud T2.p w e w')
def RI (w1:World) (Bt:Nat) (v:Value) (ti:ByteArray) (bud:Int) (P0:St.Pst) (S0:Sto) (T0:Trl) (len:Nat) (g:Nat) (wx:World):Prop:=
 ∃(T:Trl) (b:Nat) (K:St.StK) (bs:List Nat),g=len - T.t.u∧TrW w1 wx Bt K v bs ti bud T∧Gd P0 S0 b T∧b≤T.t.u∧b≤len∧∀T',Mvd len T T'→Mvd len T0 T'
set_option maxRecDepth 100000 in
set_option maxHeartbeats 8000000 in
theorem run_any (n k ask tell:Int) (back:Bool) (ti:ByteArray) (ge:Gn.Bt) (bud:Int) (a:Option Addr) (cap:Nat) (l:List Int) (w:World) (h250:l.length≤250) (hcap:l.length≤cap)
  (hl:l= []∨∃b off,a=some ⟨b,off,none⟩∧b < w.heap.size∧∀i,(h:i < l.length)→w.cell? ⟨b,off+i,none⟩=some (.int .i64 l[i])) (hv:Gn.ErrV w) (hK:KnownAt w):
  Calls Tryz.prog 9 #[.agg #[.int .i64 n,.int .i64 k,.int .i64 ask,.int .i64 tell,.bool back,.string ti,.string (Gn.ba ge),.int .i64 bud],.slice a l.length cap] w (RunTold n k ask tell back ti ge bud l w):=by
 have hpos:0 < w.heap.size:=World.block_lt_of_cell? w ⟨0,0*13+0,none⟩ (hK 0 0 (by decide) (by decide));have hlen:((l.length:Int) > 2000)=False:=by simp;omega
 have HB:=hideIt (isBudget_any bud);have hw1:Below w.heap.size w ((w.alloc (.cells #[.int .i64 n,.int .i64 k,.int .i64 ask,.int .i64 tell,.bool back,.string ti,.string (Gn.ba ge),.int .i64 bud] 25)).alloc (.cells #[.string ⟨#[]⟩,.slice none 0 0,.int .i64 0,.slice none 0 0,.int .i64 0] 36)):=St.belA (St.belA (Below.refl _ _) _) _;have hP1:((w.alloc (.cells #[.int .i64 n,.int .i64 k,.int .i64 ask,.int .i64 tell,.bool back,.string ti,.string (Gn.ba ge),.int .i64 bud] 25)).alloc (.cells #[.string ⟨#[]⟩,.slice none 0 0,.int .i64 0,.slice none 0 0,.int .i64 0] 36)).heap[w.heap.size]?=some (.cells #[.int .i64 n,.int .i64 k,.int .i64 ask,.int .i64 tell,.bool back,.string ti,.string (Gn.ba ge),.int .i64 bud] 25 (0,0)):=
  ((St.belA (Below.refl _ _) _:Below (w.alloc _).heap.size (w.alloc _) _).block w.heap.size (by rw[World.size_alloc];omega)).trans (heap_alloc_new w _)
 have hR1:((w.alloc (.cells #[.int .i64 n,.int .i64 k,.int .i64 ask,.int .i64 tell,.bool back,.string ti,.string (Gn.ba ge),.int .i64 bud] 25)).alloc (.cells #[.string ⟨#[]⟩,.slice none 0 0,.int .i64 0,.slice none 0 0,.int .i64 0] 36)).heap[w.heap.size+1]?=some (.cells #[.string ⟨#[]⟩,.slice none 0 0,.int .i64 0,.slice none 0 0,.int .i64 0] 36 (0,0)):=by
  have:=heap_alloc_new (w.alloc (.cells #[.int .i64 n,.int .i64 k,.int .i64 ask,.int .i64 tell,.bool back,.string ti,.string (Gn.ba ge),.int .i64 bud] 25)) (.cells #[.string ⟨#[]⟩,.slice none 0 0,.int .i64 0,.slice none 0 0,.int .i64 0] 36)
  rwa [World.size_alloc] at this
 have HW1:=hideIt (And.intro hw1 (And.intro hP1 hR1));clear hw1 hP1 hR1;go_enter Tryz.func9,Tryz.ntmps9
 go_upto_region 1 with fail
 generalize ((w.alloc (.cells #[.int .i64 n,.int .i64 k,.int .i64 ask,.int .i64 tell,.bool back,.string ti,.string (Gn.ba ge),.int .i64 bud] 25)).alloc (.cells #[.string ⟨#[]⟩,.slice none 0 0,.int .i64 0,.slice none 0 0,.int .i64 0] 36))=w1 at*
 obtain⟨hb1,hP1,hR1⟩:=HW1.out;have HA:Hid (∀Z,Below w1.heap.size w1 Z→Z.cell? ⟨w.heap.size,0,none⟩=some (.int .i64 n)∧Z.cell? ⟨w.heap.size,1,none⟩=some (.int .i64 k)∧Z.cell? ⟨w.heap.size,2,none⟩=some (.int .i64 ask)∧Z.cell? ⟨w.heap.size,3,none⟩=some (.int .i64 tell)∧Z.cell? ⟨w.heap.size,4,none⟩=some (.bool back)∧Z.cell? ⟨w.heap.size,5,none⟩=some (.string ti)∧Z.cell? ⟨w.heap.size,6,none⟩=some (.string (Gn.ba ge))∧Z.cell? ⟨w.heap.size,7,none⟩=some (.int .i64 bud)):=fun Z hZ=>by
  have e:=(hZ.block w.heap.size (lt_of_heap hP1)).trans hP1;exact⟨by rw[cell_of_row _ _ _ _ 25 _ e];rfl,by rw[cell_of_row _ _ _ _ 25 _ e];rfl,by rw[cell_of_row _ _ _ _ 25 _ e];rfl,by rw[cell_of_row _ _ _ _ 25 _ e];rfl,by rw[cell_of_row _ _ _ _ 25 _ e];rfl,by rw[cell_of_row _ _ _ _ 25 _ e];rfl,by rw[cell_of_row _ _ _ _ 25 _ e];rfl,by rw[cell_of_row _ _ _ _ 25 _ e];rfl⟩
 have HR:Hid (∀Z,Below w1.heap.size w1 Z→Z.heap[w.heap.size+1]?=some (.cells #[.string ⟨#[]⟩,.slice none 0 0,.int .i64 0,.slice none 0 0,.int .i64 0] 36 (0,0))):=fun Z hZ=>(hZ.block _ (lt_of_heap hR1)).trans hR1
 have HBw:Hid (∀Z,Below w1.heap.size w1 Z→Below w.heap.size w Z):=fun Z hZ=>St.belJ hb1 hZ
 have HRc:Hid (∀Z,Below w1.heap.size w1 Z→(Z.cell? ⟨w.heap.size+1,0,none⟩=some (.string ⟨#[]⟩)∧Z.cell? ⟨w.heap.size+1,1,none⟩=some (.slice none 0 0)∧Z.cell? ⟨w.heap.size+1,2,none⟩=some (.int .i64 0)∧Z.cell? ⟨w.heap.size+1,3,none⟩=some (.slice none 0 0)∧Z.cell? ⟨w.heap.size+1,4,none⟩=some (.int .i64 0))∧∀i,Z.frozen? ⟨w.heap.size+1,i,none⟩=false):=fun Z hZ=>by
  have e:=HR.out Z hZ;exact⟨⟨by rw[cell_of_row _ _ _ _ 36 _ e];rfl,by rw[cell_of_row _ _ _ _ 36 _ e];rfl,by rw[cell_of_row _ _ _ _ 36 _ e];rfl,by rw[cell_of_row _ _ _ _ 36 _ e];rfl,by rw[cell_of_row _ _ _ _ 36 _ e];rfl⟩,fun i=>frozen_of_row _ _ _ _ 36 e⟩
 have HBad:Hid (WhyNot n k ask tell back ge bud l→∀Z,Below w1.heap.size w1 Z→∀T x,RunTold n k ask tell back ti ge bud l w (.returned (.tuple #[rep0,.iface T x])) (set5 Z (w.heap.size+1) (.string ⟨#[]⟩) (.slice none 0 0) (.int .i64 0) (.slice none 0 0) (.int .i64 0))):=fun hr Z hZ T x=>.inl ⟨T,x,rfl,hr,set5_bel (HBw.out Z hZ) (Nat.le_succ _) _ _ _ _ _⟩
 have hKz:=hideIt (fun Z (hZ:Below w1.heap.size w1 Z)=>hK.below hpos (HBw.out Z hZ));have HV:=hideIt hv;have HL:=hideIt hl;have hb0:Below w1.heap.size w1 w1:=Below.refl _ _;obtain⟨a0,a1,a2,a3,a4,a5,a6,a7⟩:=HA.out _ hb0;obtain⟨⟨r0,r1,r2,r3,r4⟩,rf⟩:=HRc.out _ hb0;have f0:=rf 0;have f1:=rf 1;have f2:=rf 2;have f3:=rf 3;have f4:=rf 4;have HLen:Hid (l.length≤250∧l.length≤cap):=⟨h250,hcap⟩;clear hb1 hP1 hR1 HW1 hv hl hK hpos rf hcap h250;cases hbd:okBud bud with
 | false=>
  have HBd:Hid (okBud bud=false):=hbd;rw[hbd] at HB;clear HV HL hKz;have hlen':decide ((l.length:Int) > 2000)=false:=by have:=HLen.out.1;simp;omega
  clear HLen hlen;go_wp2_with fail
  refine(HB.out _).mono ?_;rintro e w2 ⟨rfl,rfl⟩;go_wp2;change bodyPost _ _ _ _ _ (set5 w2 (w.heap.size+1) (.string ⟨#[]⟩) (.slice none 0 0) (.int .i64 0) (.slice none 0 0) (.int .i64 0));refine bodyPost_ret (Gn.results_two rfl _ _ _ _ rfl (loadR (set5_row (HR.out _ hb0)))) rfl ?_;exact HBad.out (.inl HBd.out) _ hb0 _ _
 | true=>
  rw[hbd] at HB;have hlen':decide ((l.length:Int) > 2000)=false:=by have:=HLen.out.1;simp;omega
  by_cases hc:¬St.checkC n k ask tell=0
  ·have HN:=hideIt (fun Z=>St.new_bad n k ask tell back Z hc);have hE:St.toldE (St.checkC n k ask tell)=.iface 55 (.int .i64 (St.checkC n k ask tell)):=by unfold St.toldE;rw[if_neg hc]
   rw[hE] at HN;have HC0:Hid (WhyNot n k ask tell back ge bud l):=.inr (.inl hc);clear HV HL hKz HLen hlen hc hE;generalize St.checkC n k ask tell=cc at*
   go_wp2_with fail
   refine(HB.out _).mono ?_;rintro e w2 ⟨rfl,rfl⟩;go_wp2_with fail
   refine(HN.out _).mono ?_;rintro e W3 ⟨rfl,hb3⟩;obtain⟨⟨r0,r1,r2,r3,r4⟩,rf⟩:=HRc.out _ hb3;have f0:=rf 0;have f1:=rf 1;have f2:=rf 2;have f3:=rf 3;have f4:=rf 4;have HB3:=hideIt hb3;clear rf hb3 HN HB;go_wp2;change bodyPost _ _ _ _ _ (set5 W3 (w.heap.size+1) (.string ⟨#[]⟩) (.slice none 0 0) (.int .i64 0) (.slice none 0 0) (.int .i64 0));refine bodyPost_ret (Gn.results_two rfl _ _ _ _ rfl (loadR (set5_row (HR.out _ HB3.out)))) rfl ?_;exact HBad.out HC0.out _ HB3.out _ _
  replace hc:St.checkC n k ask tell=0:=Classical.not_not.1 hc;obtain⟨hn,hk,ha,ht⟩:=St.checkC_ok hc;obtain⟨nn,rfl⟩:∃x:Nat,n=x:=⟨n.toNat,by omega⟩;obtain⟨kk,rfl⟩:∃x:Nat,k=x:=⟨k.toNat,by omega⟩;obtain⟨aa,rfl⟩:∃x:Nat,ask=x:=⟨ask.toNat,by omega⟩;obtain⟨tt,rfl⟩:∃x:Nat,tell=x:=⟨tell.toNat,by omega⟩;have HN:=hideIt (fun Z=>St.new_any nn kk aa tt back Z hc);have HIni:=hideIt (ini0 (ask:=aa) (tell:=tt) back (show 1≤nn by omega) (show nn≤7 by omega) (show kk≤8 by omega));have HCc:=hideIt (And.intro hbd hc);clear hc hn hk ha ht hbd;go_wp2_with fail
  refine(HB.out _).mono ?_;rintro e w2 ⟨rfl,rfl⟩;go_wp2_with fail
  refine(HN.out _).mono ?_;rintro e W3 ⟨B,N,C,rfl,hnw⟩;have hb3:=hnw.bel;have hst:=St.sto_new hnw;have HSt:=hideIt hst;have HB3:=hideIt hb3;obtain⟨a0,a1,a2,a3,a4,a5,a6,a7⟩:=HA.out _ hb3;have HPs:=hideIt (Gn.parse_any ge W3 (HV.out.fr (Gn.fr_below (HBw.out _ hb3) []) (by simp) (by simp)));clear hnw hst hb3 HN HB r0 r1 r2 r3 r4 f0 f1 f2 f3 f4;go_wp2_with fail
  refine HPs.out.mono ?_;rintro e W4 hps;rcases hps with ⟨g,v,bs,hg1,rfl,hg2,hg3,hfr⟩ | ⟨hg1,Ty,x,rfl,hfr⟩
  ·have hb34:=hfr.below (base:=W3.heap.size) (Nat.le_refl _) (by simp);have hb4:=St.belJ HB3.out hb34;have hst4:=HSt.out.below hb34;have hown:∀y,(St.stK0 B N C).own kk y→y < W3.heap.size:=fun y hy=>(HSt.out.own_lt hy).2
   have htr:=tr_start (a:=a) (cap:=cap) (l:=l) (ti:=ti) (ge:=Gn.ba ge) (bud:=bud) hst4 hg2 HB3.out.size ⟨hown B (.inl rfl),hown N (.inr (.inl rfl)),hown C (.inr (.inr (.inl rfl)))⟩ hg3 HLen.out.2 (HL.out.imp id fun⟨b,off,e,hb,hx⟩=>⟨b,off,e,by have:=(HBw.out _ hb0).size;omega,fun i hi=>((HBw.out _ hb4).cell (p:=⟨b,off+i,none⟩) hb).trans (hx i hi)⟩);obtain⟨hd,hwt⟩:=Gn.parseF_reads hg1;have hgd:Gd (St.pst0 nn kk aa tt back) (sto0 nn kk aa tt back) 0 (T00 nn kk aa tt back g l):=gd0 hd hwt;obtain⟨Ty,x,F,hM⟩:=Gn.met_of hg2;have hsh:=hM.shape;subst hsh;have HTr:=hideIt htr;have HGd:=hideIt hgd;have HG1:=hideIt hg1;have HB4:=hideIt hb4;obtain⟨a0,a1,a2,a3,a4,a5,a6,a7⟩:=HA.out _ hb4;clear htr hgd hg1 hd hwt hM hg2 hg3 hfr hb34 hb4 hst4 hown HPs HSt HL HV hlen hlen';go_wp2
   go_loopg [] (l.length) (fun g' wx=>RI w2 W4.heap.size (.iface Ty x) ti bud (St.pst0 nn kk aa tt back) (sto0 nn kk aa tt back) (T00 nn kk aa tt back g l) l.length g' wx)
   case atStart=>exact⟨_,0,_,bs,rfl,HTr.out,HGd.out,Nat.zero_le _,Nat.zero_le _,fun _ h=>h⟩
   case round=>
    obtain⟨T,b,K,bs2,rfl,h,hG,hbu,hbl,hM⟩:=hrel;clear HTr HGd a0 a1 a2 a3 a4 a5 a6 a7;have HUs:=hideIt (used_any h);by_cases hlt:T.t.u < l.length
    ·have hlt':decide ((T.t.u:Int) < (l.length:Int))=true:=decide_eq_true (by omega);obtain⟨d,hI⟩:=hG.inv HIni.out (by have:=HLen.out.1;omega);have HMv:=hideIt (moveT_any h hI hG.rch.bg (by have:=hG.u;have:=hG.rch.wt;have:=HLen.out.1;omega));have hmono:=moveF_mono T;have HX:=hideIt (And.intro (hG.move) (And.intro hmono (And.intro (fun T' (ht:Mvd l.length (moveF T) T')=>hM T' (.step hlt ht)) (And.intro hbu hlt))));clear h hG hbu hbl hM hI hmono;go_wp2_with fail
     refine HUs.out.mono ?_;rintro e W5 ⟨rfl,rfl⟩;go_wp2_with fail
     refine HMv.out.mono ?_;rintro e W6 ⟨rfl,K',bs',h6⟩;have H6:=hideIt h6;clear h6 HMv HUs hlt';go_wp2
     go_roundg (l.length - (moveF T).t.u)
     case measure=>have:=HX.out.2.1;omega
     case rel=>exact⟨_,b+1,K',bs',rfl,H6.out,HX.out.1,by have:=HX.out.2.1;have:=HX.out.2.2.2.1;omega,by have:=HX.out.2.2.2.1;omega,HX.out.2.2.1⟩
    ·have hlt':decide ((T.t.u:Int) < (l.length:Int))=false:=decide_eq_false (by omega);have HMd:=hideIt (hM T (.done T (by omega)));have HFi:=hideIt (finish_any h HIni.out hG (by have:=HLen.out.1;omega));have hle:l.length≤T.t.u:=by omega
     clear h hG hbu hbl hM;go_wp2_with fail
     refine HUs.out.mono ?_;rintro e W5 ⟨rfl,rfl⟩;go_wp2_with fail
     refine HFi.out.mono ?_;rintro e W7 ⟨rfl,K2,bs3,T2,b2,hb2,h7,hG7,hF7⟩;have hb7:=h7.st.bel;have h9:T2.p.evs.length≤9000:=by
      obtain⟨c,hI⟩:=hG7.inv HIni.out (by omega);exact hI.bnd.ev
     have HRp:=hideIt (report_any h7 h9 (Nat.le_trans hG7.cb hG7.rch.bg) (hKz.out _ hb7));have HB7:=hideIt hb7;have HG7:=hideIt (And.intro hb2 (And.intro hG7 hF7));clear h7 hb7 h9 hG7 hF7 HFi HUs hb2;go_wp2_with fail
     refine HRp.out.mono ?_;rintro e W8 (⟨Ty8,x8,rfl,hno,hb8⟩ | ⟨hgood,hb8,v',L,ho,hO,h40,ov,rfl,ho1,ho2⟩)
     ·have hb18:=St.belJ HB7.out hb8;have HB18:=hideIt hb18;have HWhy:Hid (WhyNot (nn:Int) kk aa tt back ge bud l):=.inr (.inr (.inr ⟨nn,kk,aa,tt,b2,g,T,T2,rfl,rfl,rfl,rfl,HG1.out,HMd.out,HG7.out.2.2,HG7.out.2.1,hno⟩));obtain⟨⟨r0,r1,r2,r3,r4⟩,rf⟩:=HRc.out _ hb18;have f0:=rf 0;have f1:=rf 1;have f2:=rf 2;have f3:=rf 3;have f4:=rf 4;clear rf hb18 hb8 hno HRp;unfold rep0;go_wp2;change bodyPost _ _ _ _ _ (set5 W8 (w.heap.size+1) (.string ⟨#[]⟩) (.slice none 0 0) (.int .i64 0) (.slice none 0 0) (.int .i64 0));refine bodyPost_ret (Gn.results_two rfl _ _ _ _ rfl (loadR (set5_row (HR.out _ HB18.out)))) rfl ?_;exact HBad.out HWhy.out _ HB18.out _ _
     have HGood:=hideIt hgood;clear hgood;obtain⟨va,vc,rfl⟩:=St.ownsRow_slice ho;obtain⟨oa,on,oc,rfl⟩:∃a n c,ov=.slice a n c:=by
      by_cases h1:(searchM (srB 1 L bud.toNat)).code=1
      ·obtain⟨a,c,e⟩:=St.ownsRow_slice (ho1 h1);exact⟨a,_,c,e⟩
      ·exact⟨none,0,0,ho2 h1⟩
     have hb18:=St.belJ HB7.out hb8;have HO:=hideIt (And.intro ho (And.intro hO (And.intro h40 (And.intro ho1 ho2))));have HB18:=hideIt hb18;have HSz:Hid (w.heap.size+1 < W7.heap.size):=lt_of_heap (HR.out _ HB7.out);obtain⟨⟨r0,r1,r2,r3,r4⟩,rf⟩:=HRc.out _ hb18;have f0:=rf 0;have f1:=rf 1;have f2:=rf 2;have f3:=rf 3;have f4:=rf 4;clear rf hb18 hb8 ho hO h40 ho1 ho2 HRp;generalize hsr:searchM (srB 1 L bud.toNat)=sr at*
     have HSr:=hideIt hsr;clear hsr;go_wp2;change bodyPost _ _ _ _ _ (set5 W8 (w.heap.size+1) (.string ti) (.slice va T2.p.evs.length vc) (.int .i64 (sr.code:Int)) (.slice oa on oc) (.int .i64 (sr.ent.length:Int)));refine bodyPost_ret (Gn.results_two rfl _ _ _ _ rfl (loadR (set5_row (HR.out _ HB18.out)))) rfl ?_;have hkp:∀b,W7.heap.size≤b→(set5 W8 (w.heap.size+1) (.string ti) (.slice va T2.p.evs.length vc) (.int .i64 (sr.code:Int)) (.slice oa on oc) (.int .i64 (sr.ent.length:Int))).heap[b]?=W8.heap[b]?:=fun b hb=>set5_oth _ _ _ _ _ _ _ b (by have:=HSz.out;omega)
     have hwz:w.heap.size≤W7.heap.size:=by have:=HSz.out;omega
     refine .inr ⟨HCc.out.1,nn,kk,aa,tt,rfl,rfl,rfl,rfl,HCc.out.2,g,T,T2,b2,HG1.out,HMd.out,HG7.out.2.2,HG7.out.1,HG7.out.2.1,HGood.out,set5_bel (HBw.out _ HB18.out) (Nat.le_succ _) _ _ _ _ _,_,L,ownsRow_base (own_oth HO.out.1 hkp) hwz,HO.out.2.1,HO.out.2.2.1,_,by rw[HSr.out];rfl,?_,?_⟩
     ·rw[HSr.out];exact fun h=>ownsRow_base (own_oth (HO.out.2.2.2.1 h) hkp) hwz
     ·rw[HSr.out];exact HO.out.2.2.2.2
  ·have hb4:=St.belJ HB3.out (hfr.below (base:=W3.heap.size) (Nat.le_refl _) (by simp));obtain⟨⟨r0,r1,r2,r3,r4⟩,rf⟩:=HRc.out _ hb4;have f0:=rf 0;have f1:=rf 1;have f2:=rf 2;have f3:=rf 3;have f4:=rf 4;have HB4:=hideIt hb4;have HG0:=hideIt hg1;clear rf hb4 hfr HPs HSt hg1;go_wp2;change bodyPost _ _ _ _ _ (set5 W4 (w.heap.size+1) (.string ⟨#[]⟩) (.slice none 0 0) (.int .i64 0) (.slice none 0 0) (.int .i64 0));refine bodyPost_ret (Gn.results_two rfl _ _ _ _ rfl (loadR (set5_row (HR.out _ HB4.out)))) rfl ?_;exact HBad.out (.inr (.inr (.inl HG0.out))) _ HB4.out _ _
end Go.Proofs.YtjpklmighoondaaGreatDoor.Fa
namespace Go.Proofs.YtjpklmighoondaaGreatDoor.Fa
theorem drn_drain:∀(k:Nat) (T:Trl),(drainF k T).p.mails= []→Drn T (drainF k T)
 | 0,T,h=>.done T h
 | k+1,T,h=>by
  unfold drainF at h ⊢
  split at h
  ·rename_i h0
   rw[if_pos h0];exact .done T h0
  ·rename_i h0
   rw[if_neg h0];exact .step h0 (drn_drain k _ h)
def g1:Gn.Gt:=.lim (.wr 0 5 5) 1
def Tt0:Trl:=(T00 3 1 2 2 true g1 []).play ⟨6,0,0,0⟩
def Tt1:Trl:=(begsF Tt0 1).1
def Tt2:Trl:=drainF 40 Tt1
def Tt3:Trl:=(begsF Tt2 1).1
theorem tt1:(begsF Tt0 1).2=true:=by rfl
theorem tt2:Tt2.p.mails= []:=by rfl
theorem tt3:(begsF Tt2 1).2=false:=by rfl
theorem tt_evs:Tt3.p.evs= [⟨0,1,0,2,5,0,0⟩,⟨0,2,0,2,5,0,0⟩]:=by rfl
theorem tt_fin:Fin Tt0 Tt3:=.more (T1:=Tt0) (.done Tt0 rfl) tt1 (.last (T1:=Tt2) (drn_drain 40 Tt1 tt2) tt3)
theorem tt_ops {L:List Opn} (h:OpsOf (hist (Tt3.p.evs.map toEv) (Tt3.p.evs.map toEv).length) L):L= [⟨0,0,2,5,0,0,0,1⟩]:=by
 rw[tt_evs] at h;obtain⟨qs,hd,hq,hp,_⟩:=h;have hqs:qs= []:=by
  cases qs with
  | nil=>rfl
  | cons q qs=>
   have h1:=(hq q).1 (by simp);have e:((hist (List.map toEv [⟨0,1,0,2,5,0,0⟩,⟨0,2,0,2,5,0,0⟩]) 2).busy q)=none:=by
    show (setO (setO (fun _=>none) 0 _) 0 none) q=none;unfold setO
    split<;>simp_all
   have h2:((hist (List.map toEv [⟨0,1,0,2,5,0,0⟩,⟨0,2,0,2,5,0,0⟩]) 2).busy q).isSome=true:=h1;rw[e] at h2;cases h2
 subst hqs;have hp2:L.Perm [⟨0,0,2,5,0,0,0,1⟩]:=hp;exact List.perm_singleton.1 hp2
theorem tt_code {L:List Opn} (h:OpsOf (hist (Tt3.p.evs.map toEv) (Tt3.p.evs.map toEv).length) L):(searchM (srB 1 L 10000)).code=1:=by
 rw[tt_ops h];rfl
theorem tt_ok:RepOk 10000 Tt3.p:=by
 refine⟨by rw[tt_evs];decide,?_,fun L hL _=>?_⟩
 ·rw[tt_evs];intro i hi _
  match i,hi with
  | 0,_=>rfl
  | 1,_=>rfl
  | n+2,h=>exact absurd h (by show ¬n+2 < 2;omega)
 ·rw[tt_ops hL];refine .inr (.inr ⟨by decide,by decide,by decide,.inr (.inr ⟨told0 _ (by decide) fun j hj=>?_,by decide,rfl⟩)⟩)
  match j,hj with
  | 0,_=>rfl
  | n+1,h=>exact absurd h (by show ¬n+1 < 1;omega)
open Go.RowKit Go.Shelf
set_option maxRecDepth 100000 in
set_option maxHeartbeats 1000000 in
theorem idx_any (ts:List Gn.Bt) (hn:ts.length≤1000) (hx:∀j (h:j < ts.length),ts[j]≠ []) (g cap:Nat) (w:World) (hc:∀j (h:j < ts.length),w.cell? ⟨g,j,none⟩=some (.string (Gn.ba ts[j]))):
  Calls Tryz.prog 128 #[.slice (some ⟨g,0,none⟩) ts.length cap,.string (Gn.ba [])] w fun e w'=>e=.returned (.int .i64 (-1))∧w'=w:=by
 have HX:=hideIt hx;have HC:=hideIt hc;clear hx hc;go_enter Tryz.func128,Tryz.ntmps128
 go_wp2
 go_loopw [8] (fun v wr=>∃k:Nat,k≤ts.length∧v=.int .i64 k∧wr=w) (fun v _=>ts.length - (intOf v).toNat)
 case atStart=>exact⟨0,Nat.zero_le _,rfl,rfl⟩
 case round=>
  obtain⟨k,hk,rfl,rfl⟩:=hrel;by_cases hkn:k < ts.length
  ·have hkn':(k:Int) < ts.length:=by omega
   have c0:=HC.out k hkn;have g1:=Gn.ba_ne (Ne.symm (HX.out k hkn));generalize ts[k]=y at*
   go_wp2
   go_roundw
   case rel=>exact⟨k+1,by omega,by go_num,trivial⟩
   case measure=>simp[intOf];omega
  ·obtain rfl:k=ts.length:=by omega
   go_wp2;go_ret;exact⟨rfl,rfl⟩
set_option maxRecDepth 100000 in
theorem cont_any (ts:List Gn.Bt) (hn:ts.length≤1000) (hx:∀j (h:j < ts.length),ts[j]≠ []) (g cap:Nat) (w:World) (hc:∀j (h:j < ts.length),w.cell? ⟨g,j,none⟩=some (.string (Gn.ba ts[j]))):
  Calls Tryz.prog 144 #[.slice (some ⟨g,0,none⟩) ts.length cap,.string (Gn.ba [])] w fun e w'=>e=.returned (.bool false)∧w'=w:=by
 have HI:=hideIt (idx_any ts hn hx g cap w hc);clear hx hc;go_enter Tryz.func144,Tryz.ntmps144
 go_wp2_with fail
 refine HI.out.mono ?_;rintro e w1 ⟨rfl,rfl⟩;go_wp2;go_ret;exact⟨rfl,rfl⟩
def updN (cs:Array Value) (o:Nat→Nat) (v:Nat→Int):Nat→Array Value
 | 0=>cs
 | k+1=>(updN cs o v k).setIfInBounds (o k) (.int .i64 (v k))
theorem updN_size (cs:Array Value) (o:Nat→Nat) (v:Nat→Int):∀k,(updN cs o v k).size=cs.size
 | 0=>rfl
 | k+1=>by show ((updN cs o v k).setIfInBounds _ _).size=_;rw[Array.size_setIfInBounds,updN_size]
set_option maxRecDepth 100000 in
set_option maxHeartbeats 4000000 in
theorem hearN (t:Gn.Bt) (ts:List Gn.Bt) (n:Nat) (v:Nat→Int) (o:Nat→Nat) (hn:ts.length=n) (hn8:n≤8) (ht:t.length≤3000) (hc:Lib.countB (Gn.ba t) ⟨#[32]⟩+1=n) (hsp:Lib.splitB ⟨#[32]⟩ 0 (Lib.countB (Gn.ba t) ⟨#[32]⟩) (Gn.ba t)=ts.map Gn.ba)
  (hw:∀j (h:j < ts.length),Gn.numD ts[j]=some (v j)∧ts[j]≠ []∧okBud (v j)=true∧ts[j].length≤3000)
  (P S cap:Nat) (cs:Array Value) (m:Int) (w:World) (hP:w.heap[P]?=some (.cells cs 25 (0,0))) (hS:∀j,j < n→w.cell? ⟨S,j,none⟩=some (.pointer (some ⟨P,o j,none⟩))∧o j < cs.size) (hSP:S≠P)
  (hv:Gn.ErrV w) (hp:Gn.PowT w) (hm:w.cell? ⟨1,0,none⟩=some (.int .i64 m)) (hPg:Gn.gRng≠P∧Gn.gSyn≠P∧Gn.gPow≠P):
  Calls Tryz.prog 91 #[.string (Gn.ba t),.slice (some ⟨S,0,none⟩) n cap] w fun e w'=>e=.returned (.int .i64 0)∧Gn.Fr [P] w w'∧w'.heap[P]?=some (.cells (updN cs o v n) 25 (0,0)):=by
 have hSp:=Any.strings_Split Gn.nu_lays146 (by kernel_rfl) (Gn.ba t) ⟨#[32]⟩ m w (by rw[Gn.ba_size];omega) hm (by decide);rw[hc,hsp] at hSp;have HSp:Hid (Calls Tryz.prog 143 #[.string (Gn.ba t),.string ⟨#[32]⟩] w fun e w'=>e=.returned (.slice (some ⟨w.heap.size,0,none⟩) n n)∧w'=w.alloc (.cells ((ts.map Gn.ba).map Value.string).toArray 9)):=hSp;have hPl:=lt_of_heap hP;have HP:=hideIt hP;have HS:=hideIt hS;have HW:=hideIt hw;have HV:=hideIt (And.intro hv (And.intro hp hPg));have HNum:=hideIt (fun (t:Gn.Bt) Z (ht:t.length≤3000) (hv:Gn.ErrV Z) (hp:Gn.PowT Z)=>Gn.number_dany t Z ht hv hp);have HB:=hideIt isBudget_any;have hrow:∀j (h:j < ts.length),(w.alloc (.cells ((ts.map Gn.ba).map Value.string).toArray 9)).cell? ⟨w.heap.size,j,none⟩=some (.string (Gn.ba ts[j])):=fun j h=>by
  rw[cell_of_row _ _ _ _ 9 _ (heap_alloc_new w _)];simp[h]
 have hC:=cont_any ts (by omega) (fun j h=>(hw j h).2.1) w.heap.size ts.length (w.alloc (.cells ((ts.map Gn.ba).map Value.string).toArray 9)) hrow;rw[hn] at hC;have HC:=hideIt hC;have HR:=hideIt hrow;have HF0:Hid (Gn.Fr [] w (w.alloc (.cells ((ts.map Gn.ba).map Value.string).toArray 9))):=Gn.Fr.alloc _ _ _;have hPw:(w.alloc (.cells ((ts.map Gn.ba).map Value.string).toArray 9)).heap[P]?=some (.cells cs 25 (0,0)):=(Below.heap_alloc _ _ _ hPl).trans hP;have HPw:=hideIt hPw;have hsw:(w.alloc (.cells ((ts.map Gn.ba).map Value.string).toArray 9)).heap.size=w.heap.size+1:=World.size_alloc _ _;clear hSp hc hsp hP hS hw hv hp hm hPg hrow hC hPw ht;go_enter Tryz.func91,Tryz.ntmps91
 go_wp2_with fail
 refine HSp.out.mono ?_;rintro e w1 ⟨rfl,hw1⟩;rw[←hw1] at HC HR HF0 HPw hsw;clear hw1 HSp;have hnn:(((n:Nat):Int) != ((n:Nat):Int))=false:=by simp
 go_wp2_with fail
 refine HC.out.mono ?_;rintro e w2 ⟨rfl,rfl⟩;go_wp2
 go_loopw [23] (fun x wr=>∃k:Nat,k≤n∧x=.int .i64 k∧Gn.Fr [P] w wr∧wr.heap[P]?=some (.cells (updN cs o v k) 25 (0,0))∧(∀j (h:j < ts.length),wr.cell? ⟨w.heap.size,j,none⟩=some (.string (Gn.ba ts[j])))) (fun x _=>n - (intOf x).toNat)
 case atStart=>exact⟨0,Nat.zero_le _,rfl,HF0.out.more (by simp),HPw.out,HR.out⟩
 case round=>
  obtain⟨k,hk,rfl,hf,hPr,hrw⟩:=hrel;by_cases hkn:k < n
  ·have hkn':(k:Int) < (n:Int):=by omega
   have hkt:k < ts.length:=by omega
   have c0:=hrw k hkt;obtain⟨q1,q2,q3,q4⟩:=HW.out k hkt;have hNm:=HNum.out ts[k] wr q4 (HV.out.1.fr hf (by simp;exact HV.out.2.2.1) (by simp;exact HV.out.2.2.2.1)) (HV.out.2.1.fr hf (by simp;exact HV.out.2.2.2.2));rw[show Gn.numDV ts[k]=.tuple #[.int .i64 (v k),.bool true] by unfold Gn.numDV;rw[q1]] at hNm;have HNm:=hideIt hNm;have hB:=HB.out (v k);rw[q3] at hB;have HBk:=hideIt hB;have HF:=hideIt hf;have HPr:=hideIt hPr;have HRw:=hideIt hrw;have hRP:w.heap.size≠P:=by omega
   clear hNm hB hf hPr hrw q1 q2 q3 q4;generalize ts[k]=y at c0 HNm;go_wp2_with fail
   refine HNm.out.mono ?_;rintro e w3 ⟨rfl,hf3⟩;have hF3:=HF.out.trans (hf3.more (by simp));have hP3:w3.heap[P]?=some (.cells (updN cs o v k) 25 (0,0)):=(hf3.block P (lt_of_heap HPr.out) (by simp)).trans HPr.out;have hS3:w3.cell? ⟨S,k,none⟩=some (.pointer (some ⟨P,o k,none⟩)):=(World.cell?_of_block (a:=⟨S,k,none⟩) (hF3.block S (World.block_lt_of_cell? w _ (HS.out k hkn).1) (by simpa using hSP))).trans (HS.out k hkn).1;have hok:o k < (updN cs o v k).size:=by rw[updN_size];exact(HS.out k hkn).2
   obtain⟨u,hu⟩:∃u,w3.cell? ⟨P,o k,none⟩=some u:=⟨(updN cs o v k)[o k],by rw[cell_of_row _ _ _ _ 25 _ hP3];exact Array.getElem?_eq_getElem hok⟩;have hfz:w3.frozen? ⟨P,o k,none⟩=false:=frozen_of_row _ _ _ _ 25 hP3;have HF3:=hideIt hF3;have HP3:=hideIt hP3;have HRw3:Hid (∀j (h:j < ts.length),w3.cell? ⟨w.heap.size,j,none⟩=some (.string (Gn.ba ts[j]))):=fun j h=>(World.cell?_of_block (a:=⟨w.heap.size,j,none⟩) (hf3.block w.heap.size (World.block_lt_of_cell? wr _ (HRw.out j h)) (by simp))).trans (HRw.out j h)
   clear hF3 hP3 hf3 hok HNm c0;go_wp2_with fail
   refine(HBk.out _).mono ?_;rintro e w4 ⟨rfl,rfl⟩;go_wp2
   go_roundw
   case rel=>
    refine⟨k+1,by omega,by go_num,HF3.out.trans (Gn.Fr.set _ _ _ (by simp)),heap_setCell_same _ P (o k) _ 25 _ HP3.out,fun j h=>?_⟩;rw[World.cell?_setCell_other _ _ _ _ (fun e=>hRP (by injection e with e;exact e.symm))];exact HRw3.out j h
   case measure=>simp[intOf];omega
  ·obtain rfl:k=n:=by omega
   have HF:=hideIt hf;have HPr:=hideIt hPr;clear hf hPr hrw;go_wp2;go_ret;exact⟨rfl,HF.out,HPr.out⟩
end Go.Proofs.YtjpklmighoondaaGreatDoor.Fa
