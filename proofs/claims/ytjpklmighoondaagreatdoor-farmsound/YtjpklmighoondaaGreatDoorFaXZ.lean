/-
  A plan that is tried: what the document says of its report (plain).
  The statement FarmSound, walked (where the fact 'tried' holds).
  The fact that the statements of chapter 20 hold ahead, walked.
  Proved: whatever plan and tape are handed in, the statement FarmSound (a store whose quorums meet, and whose readers tell, is never called invalid, whatever a tape tells; chapter 20) returns true, and what was handed in reads behind the call as before; the listed variables (model.known among them) hold what the text lays.
-/
import Derived.Test.YtjpklmighoondaaGreatDoorRdHZ
import Derived.Test.YtjpklmighoondaaGreatDoorFaZZ
import Derived.Test.YtjpklmighoondaaGreatDoorFaUZ
import Derived.Test.YtjpklmighoondaaGreatDoorOpenF
import Derived.Test.YtjpklmighoondaaGreatDoorJfFarmSound
namespace Go.Proofs.YtjpklmighoondaaGreatDoor.Fa
theorem linear_bud {P:St.Pst} {S:Sto} (h:St.Sim P S) (hA:SAll S) (hl:S.seen.length≤120) {L:List Opn} (hL:OpsOf (hist (P.evs.map toEv) (P.evs.map toEv).length) L) (h40:L.length≤40) {bud:Int} (h0:0≤bud) (h1:bud≤1000000):
  LcTold 1 bud L 0∧(S.back=true→∀b:Nat,(searchM (srB 1 L b)).code≠2):=by
 have e:(P.evs.map toEv).length=S.seen.length:=by rw[sim_evs h];simp
 rw[e,sim_evs h] at hL;have hf:FineH (S.seen.map evS) S.seen.length:=by
  obtain⟨G,_,h2⟩:=hA;exact h2.fine
 have hI:Inv (S.seen.map evS) S.seen.length (hist (S.seen.map evS) S.seen.length):=inv_hist _ _ (by simp) hf;have ht:Told L 0:=told0 L h40 fun j hj=>opsOf_fine hI (by omega) hL j hj
 have hk:=abd_kinds hA hL;refine⟨.inr (.inr ⟨by decide,h0,h1,.inr (.inr ⟨ht,?_,rfl⟩)⟩),fun hb b=>?_⟩
 ·rw[List.any_eq_false];intro x hx;rcases hk x hx with hd | hd<;>rw[hd]<;>decide
 ·obtain⟨ord,hs⟩:=abd_shows hA hb hL;exact shows_not_invalid ht hs
theorem repOk {nn kk aa tt:Nat} {back:Bool} {bud:Int} (hc:St.checkC (nn:Int) kk aa tt=0) (hx:nn < aa+tt) (hb:okBud bud=true) (m:List Mvs):RepOk bud (St.runP (St.pst0 nn kk aa tt back) m)∧
  (back=true→∀L,OpsOf (hist ((St.runP (St.pst0 nn kk aa tt back) m).evs.map toEv) ((St.runP (St.pst0 nn kk aa tt back) m).evs.map toEv).length) L→L.length≤40→∀b:Nat,(searchM (srB 1 L b)).code≠2):=by
 obtain⟨hn,hk,ha,ht⟩:=St.checkC_ok hc;obtain⟨S,hS,hA,hbk,h120⟩:=St.run_told2 back (show 1≤nn by omega) (show kk≤8 by omega) (show 1≤aa by omega) (show 1≤tt by omega) (show tt≤nn by omega) hx m;unfold okBud at hb;rw[Bool.and_eq_true,decide_eq_true_eq,decide_eq_true_eq] at hb;refine⟨⟨?_,evs_fine hS hA,fun L hL h40=>(linear_bud hS hA h120 hL h40 hb.1 hb.2).1⟩,fun hbt L hL h40 b=>(linear_bud hS hA h120 hL h40 hb.1 hb.2).2 (hbk.trans hbt) b⟩;rw[hS.ev.1,List.length_map];exact h120
open Go.RowKit
def rep0C:Obj:=.cells #[.string ⟨#[]⟩,.slice none 0 0,.int .i64 0,.slice none 0 0,.int .i64 0] 36
set_option maxRecDepth 100000 in
set_option maxHeartbeats 8000000 in
theorem sound_any (n k ask tell:Int) (back:Bool) (ti:ByteArray) (ge:Gn.Bt) (bud:Int) (a:Option Addr) (cap:Nat) (l:List Int) (w:World) (hcap:l.length≤cap)
  (hl:l= []∨∃b off,a=some ⟨b,off,none⟩∧b < w.heap.size∧∀i,(h:i < l.length)→w.cell? ⟨b,off+i,none⟩=some (.int .i64 l[i])) (hv:Gn.ErrV w) (hK:KnownAt w)
  (hTr:∀Z,Below w.heap.size w Z→Calls Tryz.prog 6 #[] Z fun e w'=>e=.returned (.bool true)∧Below Z.heap.size Z w'):
  Calls Tryz.prog 3 #[.agg #[.int .i64 n,.int .i64 k,.int .i64 ask,.int .i64 tell,.bool back,.string ti,.string (Gn.ba ge),.int .i64 bud],.slice a l.length cap] w fun e w'=>e=.returned (.bool true)∧Below w.heap.size w w':=by
 have hpos:0 < w.heap.size:=World.block_lt_of_cell? w ⟨0,0*13+0,none⟩ (hK 0 0 (by decide) (by decide));have hsz:=Gn.ba_size ge;have HB0:Hid (Below w.heap.size w (w.alloc (.cells #[.int .i64 n,.int .i64 k,.int .i64 ask,.int .i64 tell,.bool back,.string ti,.string (Gn.ba ge),.int .i64 bud] 25))):=hideIt (St.belA (Below.refl _ _) _);by_cases h250:250 < l.length
 ·clear hTr hv hK hpos hl;go_enter Tryz.func3,Tryz.ntmps3
  go_wp2;go_ret;exact⟨rfl,HB0.out⟩
 by_cases h500:500 < ge.length
 ·clear hTr hv hK hpos hl;go_enter Tryz.func3,Tryz.ntmps3
  go_wp2;go_ret;exact⟨rfl,HB0.out⟩
 have hd1:decide ((250:Int) < (l.length:Int))=false:=decide_eq_false (by omega);have hd2:decide ((500:Int) < (ge.length:Int))=false:=decide_eq_false (by omega);have HTr:=hideIt hTr;have HL:=hideIt (And.intro h250 (And.intro hcap (And.intro hl (And.intro hv (And.intro hK hpos)))));have HCk:=hideIt (St.check_any n k ask tell true);clear hTr h250 h500 hcap hl hv hK hpos;go_enter Tryz.func3,Tryz.ntmps3
 go_upto_region 4 with fail
 have hw1:Below w.heap.size w (w.alloc (.cells #[.int .i64 n,.int .i64 k,.int .i64 ask,.int .i64 tell,.bool true,.string ti,.string (Gn.ba ge),.int .i64 3000] 25)):=St.belA (Below.refl _ _) _;have hP1:(w.alloc (.cells #[.int .i64 n,.int .i64 k,.int .i64 ask,.int .i64 tell,.bool true,.string ti,.string (Gn.ba ge),.int .i64 3000] 25)).heap[w.heap.size]?=some (.cells #[.int .i64 n,.int .i64 k,.int .i64 ask,.int .i64 tell,.bool true,.string ti,.string (Gn.ba ge),.int .i64 3000] 25 (0,0)):=heap_alloc_new w _;generalize (w.alloc (.cells #[.int .i64 n,.int .i64 k,.int .i64 ask,.int .i64 tell,.bool true,.string ti,.string (Gn.ba ge),.int .i64 3000] 25))=w1 at*
 have HA:Hid (∀Z,Below w1.heap.size w1 Z→Z.cell? ⟨w.heap.size,0,none⟩=some (.int .i64 n)∧Z.cell? ⟨w.heap.size,1,none⟩=some (.int .i64 k)∧Z.cell? ⟨w.heap.size,2,none⟩=some (.int .i64 ask)∧Z.cell? ⟨w.heap.size,3,none⟩=some (.int .i64 tell)∧Z.cell? ⟨w.heap.size,4,none⟩=some (.bool true)∧Z.cell? ⟨w.heap.size,5,none⟩=some (.string ti)∧Z.cell? ⟨w.heap.size,6,none⟩=some (.string (Gn.ba ge))∧Z.cell? ⟨w.heap.size,7,none⟩=some (.int .i64 3000)):=fun Z hZ=>by
  have e:=(hZ.block w.heap.size (lt_of_heap hP1)).trans hP1;exact⟨by rw[cell_of_row _ _ _ _ 25 _ e];rfl,by rw[cell_of_row _ _ _ _ 25 _ e];rfl,by rw[cell_of_row _ _ _ _ 25 _ e];rfl,by rw[cell_of_row _ _ _ _ 25 _ e];rfl,by rw[cell_of_row _ _ _ _ 25 _ e];rfl,by rw[cell_of_row _ _ _ _ 25 _ e];rfl,by rw[cell_of_row _ _ _ _ 25 _ e];rfl,by rw[cell_of_row _ _ _ _ 25 _ e];rfl⟩
 have HBw:Hid (∀Z,Below w1.heap.size w1 Z→Below w.heap.size w Z):=fun Z hZ=>St.belJ hw1 hZ
 have hb1:Below w1.heap.size w1 w1:=Below.refl _ _;have HB1:=hideIt hb1;clear hw1 hP1 hb1 HB0 hd1 hd2;by_cases hc:¬St.checkC n k ask tell=0
 ·have hE:St.toldE (St.checkC n k ask tell)=.iface 55 (.int .i64 (St.checkC n k ask tell)):=by unfold St.toldE;rw[if_neg hc]
  rw[hE] at HCk;clear HL hc hE;generalize St.checkC n k ask tell=cc at*
  go_wp2_with fail
  refine(HTr.out _ (HBw.out _ HB1.out)).mono ?_;rintro e W2 ⟨rfl,hb2⟩;obtain⟨a0,a1,a2,a3,a4,a5,a6,a7⟩:=HA.out _ hb2;have HB2:=hideIt hb2;clear hb2;go_wp2_with fail
  refine(HCk.out _).mono ?_;rintro e W3 ⟨rfl,hb3⟩;have HB3:=hideIt (HBw.out _ (St.belJ HB2.out hb3));clear hb3 a0 a1 a2 a3 a4 a5 a6 a7;go_wp2_with fail
  refine(HTr.out _ HB3.out).mono ?_;rintro e W4 ⟨rfl,hb4⟩;have HB4:=hideIt (St.belJ HB3.out hb4);clear hb4;go_wp2;go_ret;exact⟨rfl,HB4.out⟩
 replace hc:St.checkC n k ask tell=0:=Classical.not_not.1 hc;obtain⟨hn,hk,ha,ht⟩:=St.checkC_ok hc;obtain⟨nn,rfl⟩:∃x:Nat,n=x:=⟨n.toNat,by omega⟩;obtain⟨kk,rfl⟩:∃x:Nat,k=x:=⟨k.toNat,by omega⟩;obtain⟨aa,rfl⟩:∃x:Nat,ask=x:=⟨ask.toNat,by omega⟩;obtain⟨tt,rfl⟩:∃x:Nat,tell=x:=⟨tell.toNat,by omega⟩;have hE:St.toldE (St.checkC (nn:Int) kk aa tt)=.nilIface:=by rw[hc];rfl
 rw[hE] at HCk;have HX:Hid (∀Z,Calls Tryz.prog 8 #[.agg #[.int .i64 (nn:Int),.int .i64 (kk:Int),.int .i64 (aa:Int),.int .i64 (tt:Int),.bool true]] Z fun e w'=>e=.returned (.bool (decide (nn < aa+tt)))∧Below Z.heap.size Z w'):=fun Z=>St.crossing_any nn kk aa tt true (by omega) (by omega) Z
 by_cases hx:¬nn < aa+tt
 ·rw[decide_eq_false hx] at HX;clear HL hc hE hn hk ha ht hx;go_wp2_with fail
  refine(HTr.out _ (HBw.out _ HB1.out)).mono ?_;rintro e W2 ⟨rfl,hb2⟩;obtain⟨a0,a1,a2,a3,a4,a5,a6,a7⟩:=HA.out _ hb2;have HB2:=hideIt hb2;clear hb2;go_wp2_with fail
  refine(HCk.out _).mono ?_;rintro e W3 ⟨rfl,hb3⟩;have hb3':=St.belJ HB2.out hb3;obtain⟨a0,a1,a2,a3,a4,a5,a6,a7⟩:=HA.out _ hb3';have HB3:=hideIt hb3';clear hb3 hb3';go_wp2_with fail
  refine(HX.out _).mono ?_;rintro e W4 ⟨rfl,hb4⟩;have HB4:=hideIt (HBw.out _ (St.belJ HB3.out hb4));clear hb4 a0 a1 a2 a3 a4 a5 a6 a7;go_wp2_with fail
  refine(HTr.out _ HB4.out).mono ?_;rintro e W5 ⟨rfl,hb5⟩;have HB5:=hideIt (St.belJ HB4.out hb5);clear hb5;go_wp2;go_ret;exact⟨rfl,HB5.out⟩
 replace hx:nn < aa+tt:=Classical.not_not.1 hx;rw[decide_eq_true hx] at HX;have HOk:=hideIt (fun m=>repOk (back:=true) (bud:=3000) hc hx (by decide) m);have HRn:Hid (∀Z,Below w.heap.size w Z→Calls Tryz.prog 9 #[.agg #[.int .i64 (nn:Int),.int .i64 (kk:Int),.int .i64 (aa:Int),.int .i64 (tt:Int),.bool true,.string ti,.string (Gn.ba ge),.int .i64 3000],.slice a l.length cap] Z (RunTold nn kk aa tt true ti ge 3000 l Z)):=fun Z hZ=>
  run_any nn kk aa tt true ti ge 3000 a cap l Z (by have:=HL.out.1;omega) HL.out.2.1 (HL.out.2.2.1.imp id fun⟨b,off,e,hb,hh⟩=>⟨b,off,e,Nat.lt_of_lt_of_le hb hZ.size,fun i hi=>(hZ.cell (p:=⟨b,off+i,none⟩) hb).trans (hh i hi)⟩) (HL.out.2.2.2.1.fr (Gn.fr_below hZ []) (by simp) (by simp)) (HL.out.2.2.2.2.1.below HL.out.2.2.2.2.2 hZ)
 clear HL hc hE hn hk ha ht hx;go_wp2_with fail
 refine(HTr.out _ (HBw.out _ HB1.out)).mono ?_;rintro e W2 ⟨rfl,hb2⟩;obtain⟨a0,a1,a2,a3,a4,a5,a6,a7⟩:=HA.out _ hb2;have HB2:=hideIt hb2;clear hb2;go_wp2_with fail
 refine(HCk.out _).mono ?_;rintro e W3 ⟨rfl,hb3⟩;have hb3':=St.belJ HB2.out hb3;obtain⟨a0,a1,a2,a3,a4,a5,a6,a7⟩:=HA.out _ hb3';have HB3:=hideIt hb3';clear hb3 hb3';go_wp2_with fail
 refine(HX.out _).mono ?_;rintro e W4 ⟨rfl,hb4⟩;have hb4':=St.belJ HB3.out hb4;obtain⟨a0,a1,a2,a3,a4,a5,a6,a7⟩:=HA.out _ hb4';have HB4:=hideIt (HBw.out _ hb4');clear hb4 hb4' HX HCk HB3 HB2;go_wp2_with fail
 refine(HRn.out _ HB4.out).mono ?_;rintro e W5 htold;rcases htold with ⟨Ty,x,rfl,_,hb5⟩ | ⟨_,n2,k2,a2,t2,e1,e2,e3,e4,_,g,T1,T2,b,_,_,_,hb,hG,_,hb5,v',L,ho,hO,h40,ov,rfl,ho1,ho2⟩
 ·have HB5:=hideIt (St.belJ HB4.out hb5);have HB6:=hideIt (St.belA HB5.out rep0C);clear hb5 HRn HOk;unfold rep0;go_wp2;go_ret;exact⟨rfl,HB6.out⟩
 ·obtain rfl:nn=n2:=by omega
  obtain rfl:kk=k2:=by omega
  obtain rfl:aa=a2:=by omega
  obtain rfl:tt=t2:=by omega
  obtain⟨m,hm,hp,_⟩:=hG.rch.mv;have hcode:(searchM (srB 1 L (3000:Int).toNat)).code≠2:=by
   rw[hp] at hO;exact(HOk.out m).2 (by first | rfl | trivial) L hO h40 _
  obtain⟨va,vc,rfl⟩:=St.ownsRow_slice ho;obtain⟨oa,on,oc,rfl⟩:∃a n c,ov=.slice a n c:=by
   by_cases h1:(searchM (srB 1 L (3000:Int).toNat)).code=1
   ·obtain⟨a,c,e⟩:=St.ownsRow_slice (ho1 h1);exact⟨a,_,c,e⟩
   ·exact⟨none,0,0,ho2 h1⟩
  have HB5:=hideIt (St.belJ HB4.out hb5);clear hb5 HRn HOk ho hO h40 ho1 ho2 hp hm hb hG e1 e2 e3 e4;generalize (searchM (srB 1 L (3000:Int).toNat)).ent.length=el at*
  generalize (searchM (srB 1 L (3000:Int).toNat)).code=cd at*
  have hcd:(((cd:Nat):Int) != 2)=true:=by simp;omega
  have HB6:Hid (Below w.heap.size w (W5.alloc (.cells #[.string ti,.slice va T2.p.evs.length vc,.int .i64 (cd:Int),.slice oa on oc,.int .i64 (el:Int)] 36))):=St.belA HB5.out _;go_wp2;go_ret;exact⟨rfl,HB6.out⟩
open Go.RowKit
set_option maxRecDepth 100000 in
set_option maxHeartbeats 4000000 in
theorem tried_any (m:Int) (w:World) (hv:Gn.ErrV w) (hp:Gn.PowT w) (hm:w.cell? ⟨1,0,none⟩=some (.int .i64 m)) (hK:KnownAt w):Calls Tryz.prog 6 #[] w fun e w'=>e=.returned (.bool true)∧Below w.heap.size w w':=by
 have h1:1 < w.heap.size:=World.block_lt_of_cell? w _ hm;have hpos:0 < w.heap.size:=by omega
 have hx:TxW w (w.heap.size+2) m:=⟨hv,hp,hm,⟨by have:=hv.lt.1;omega,by have:=hv.lt.2;omega,by have:=hp.lt;omega⟩,by omega⟩;have HP:Hid (Calls Tryz.prog 17 #[.string ⟨#[110,111,100,101,115,32,51,10,99,108,105,101,110,116,115,32,49,10,113,117,111,114,117,109,32,50,32,50,10,103,101,110,32,108,105,109,105,116,32,49,32,119,114,105,116,101,32,48,32,53,32,53,10]⟩] w fun e w'=>e=.returned (.tuple #[.agg #[.int .i64 3,.int .i64 1,.int .i64 2,.int .i64 2,.bool true,.string ⟨#[]⟩,.string (Gn.ba gen0),.int .i64 10000],.nilIface])∧Below w.heap.size w w'):=parse0 m w hx (by omega);have hc:St.checkC ((3:Nat):Int) ((1:Nat):Int) ((2:Nat):Int) ((2:Nat):Int)=0:=by decide
 have HR:Hid (∀Z,Below w.heap.size w Z→Calls Tryz.prog 9 #[.agg #[.int .i64 3,.int .i64 1,.int .i64 2,.int .i64 2,.bool true,.string ⟨#[]⟩,.string (Gn.ba gen0),.int .i64 10000],.slice none 0 0] Z (RunTold 3 1 2 2 true ⟨#[]⟩ gen0 10000 [] Z)):=fun Z hZ=>
  run_any 3 1 2 2 true ⟨#[]⟩ gen0 10000 none 0 [] Z (by decide) (by decide) (.inl rfl) (hv.fr (Gn.fr_below hZ []) (by simp) (by simp)) (hK.below hpos hZ)
 have HB0:=hideIt (Below.refl w.heap.size w);clear hv hp hm hK hx hpos;go_enter Tryz.func6,Tryz.ntmps6
 go_wp2_with fail
 refine HP.out.mono ?_;rintro e W1 ⟨rfl,hb1⟩;have HB1:=hideIt (St.belA hb1 (.cells #[.int .i64 3,.int .i64 1,.int .i64 2,.int .i64 2,.bool true,.string ⟨#[]⟩,.string (Gn.ba gen0),.int .i64 10000] 25));clear hb1;go_wp2_with fail
 refine(HR.out _ HB1.out).mono ?_;rintro e W2 htold;rcases htold with ⟨Ty,x,rfl,hwhy,hb2⟩ | ⟨_,n2,k2,a2,t2,e1,e2,e3,e4,_,g,T1,T2,b,hg,hmv,hfi,hb,hG,_,hrep⟩
 ·exfalso
  rcases hwhy with h | h | h | ⟨n2,k2,a2,t2,b,g,T1,T2,e1,e2,e3,e4,hg,hmv,hfi,_,h⟩
  ·exact absurd h (by decide)
  ·exact h hc
  ·rw[gen0_reads] at h;cases h
  ·obtain rfl:3=n2:=by omega
   obtain rfl:1=k2:=by omega
   obtain rfl:2=a2:=by omega
   obtain rfl:2=t2:=by omega
   obtain rfl:g1=g:=by
    rw[gen0_reads] at hg;exact Option.some.inj hg
   obtain rfl:T00 3 1 2 2 true g1 []=T1:=by
    cases hmv with
    | done _ _=>rfl
    | step h _=>exact absurd h (Nat.not_lt_zero _)
   obtain rfl:Tt3=T2:=tt_fin.det hfi;exact h tt_ok
 ·obtain rfl:3=n2:=by omega
  obtain rfl:1=k2:=by omega
  obtain rfl:2=a2:=by omega
  obtain rfl:2=t2:=by omega
  obtain rfl:g1=g:=by
   rw[gen0_reads] at hg;exact Option.some.inj hg
  obtain rfl:T00 3 1 2 2 true g1 []=T1:=by
   cases hmv with
   | done _ _=>rfl
   | step h _=>exact absurd h (Nat.not_lt_zero _)
  obtain rfl:Tt3=T2:=tt_fin.det hfi;obtain⟨hb2,v',L,ho,hO,h40,ov,rfl,ho1,ho2⟩:=hrep;have hcd:(searchM (srB 1 L (10000:Int).toNat)).code=1:=tt_code hO;obtain⟨oa,oc,rfl⟩:=St.ownsRow_slice (ho1 hcd);rw[tt_evs] at ho;obtain⟨va,vc,rfl,hin⟩:=evs_in ho;rcases hin with h0 | ⟨vb,rfl,hvb,hE⟩
  ·cases h0
  have h5:W2.cell? ⟨vb,11,none⟩=some (.int .i64 5):=(hE 1 (by decide)).2.2.2.2.1;have HB2:=hideIt (St.belJ HB1.out hb2);rw[hcd];generalize (searchM (srB 1 L (10000:Int).toNat)).ent.length=el at*
  generalize (searchM (srB 1 L (10000:Int).toNat)).ord.length=ol at*
  clear HR hG hb hfi hmv hg ho1 ho2 ho hO h40 hE hcd hb2 hc e1 e2 e3 e4;have h5':(W2.alloc (.cells #[.string ⟨#[]⟩,.slice (some ⟨vb,0,none⟩) 2 vc,.int .i64 1,.slice oa ol oc,.int .i64 (el:Int)] 36)).cell? ⟨vb,11,none⟩=some (.int .i64 5):=((St.belA (Below.refl W2.heap.size W2) (.cells #[.string ⟨#[]⟩,.slice (some ⟨vb,0,none⟩) 2 vc,.int .i64 1,.slice oa ol oc,.int .i64 (el:Int)] 36)).cell (p:=⟨vb,11,none⟩) hvb).trans h5;have HB3:Hid (Below w.heap.size w (W2.alloc (.cells #[.string ⟨#[]⟩,.slice (some ⟨vb,0,none⟩) 2 vc,.int .i64 1,.slice oa ol oc,.int .i64 (el:Int)] 36))):=St.belA HB2.out _;go_wp2;go_ret;exact⟨rfl,HB3.out⟩
theorem sound_walk (n k ask tell:Int) (back:Bool) (ti:ByteArray) (ge:Gn.Bt) (bud:Int) (a:Option Addr) (cap:Nat) (l:List Int) (w:World) (m:Int) (hcap:l.length≤cap)
  (hl:l= []∨∃b off,a=some ⟨b,off,none⟩∧b < w.heap.size∧∀i,(h:i < l.length)→w.cell? ⟨b,off+i,none⟩=some (.int .i64 l[i])) (hv:Gn.ErrV w) (hp:Gn.PowT w) (hK:KnownAt w) (hm:w.cell? ⟨1,0,none⟩=some (.int .i64 m)):
  Calls Tryz.prog 3 #[.agg #[.int .i64 n,.int .i64 k,.int .i64 ask,.int .i64 tell,.bool back,.string ti,.string (Gn.ba ge),.int .i64 bud],.slice a l.length cap] w fun e w'=>e=.returned (.bool true)∧Below w.heap.size w w':=
 sound_any n k ask tell back ti ge bud a cap l w hcap hl hv hK fun Z hZ=>
  tried_any m Z (hv.fr (Gn.fr_below hZ []) (by simp) (by simp)) (hp.fr (Gn.fr_below hZ []) (by simp)) ((hZ.cell (p:=⟨1,0,none⟩) (World.block_lt_of_cell? w _ hm)).trans hm) (hK.below (World.block_lt_of_cell? w ⟨0,0*13+0,none⟩ (hK 0 0 (by decide) (by decide))) hZ)
end Go.Proofs.YtjpklmighoondaaGreatDoor.Fa
namespace Go.Proofs.YtjpklmighoondaaGreatDoor
open Go.ChangeShapes Go.WideShapes Go.ChangeAt Go.RowKit
theorem readFarmSound:∀t∈ [25,26],Tryz.prog.readableRec t=true∧t < Tryz.prog.types.size:=by
 intro t ht;simp only[List.mem_cons,List.not_mem_nil,or_false] at ht;rcases ht with rfl | rfl<;>exact⟨by kernel_rfl,of_decide_eq_true (by kernel_rfl)⟩
set_option maxRecDepth 100000 in
theorem farmSound_contract {H:Type} {enc:TypeId×Value→H} (W:World) (base:Nat) (args:Array Value) (ds gs:List (DataW H)) (before:List MemPlace)
  (hval0:∀(j:Nat) t v,Tryz.f3.params[j]?=some t→args[j]?=some v→Value.okWide Tryz.prog W .any base t v)
  (hW:DataW.Whole enc Tryz.prog Tryz.f3.params.toList Rows.farmSoundSpec.vars false W args.toList ds gs before) (hL:laidMetH Tryz.prog laidA W) (hsh:W.ShapedOpen Tryz.prog):
  Calls Tryz.prog 3 args W fun e W'=>∃v,e=.returned v∧Rows.farmSoundSpec.post enc Tryz.prog Tryz.f3 false true false false W args v W':=by
 have hval:∀(j:Nat) t v,Tryz.f3.params[j]?=some t→args[j]?=some v→Value.okWide Tryz.prog W .any base t v:=hval0;have hW':=hW;obtain⟨p,q,hA0,hV,rfl,hfz,hnd⟩:=hW;have hA:DataW.TrodAll enc Tryz.prog W 0 (fun _=>true) true Tryz.f3.params.toList args.toList ds p:=hA0;rw[Tryz.params3] at hA hval;have hA1:=hA;obtain⟨v0,vs0,d0,ds0,p0,q0,e0,rfl,rfl,h0,hA⟩:=trodAll_cons hA;obtain⟨v1,vs1,d1,ds1,p1,q1,rfl,rfl,rfl,h1,hA⟩:=trodAll_cons hA;obtain⟨rfl,rfl,rfl⟩:=trodAll_nil hA;obtain rfl:args=#[v0,v1]:=by
  rw[←Array.toArray_toList (xs:=args),e0]
 obtain⟨rfl,rfl⟩:=trodVars_none hV;obtain⟨n0,k0,a0,t0,b0,ti,ge,bud,rfl⟩:=plan_of_Trod (okWide_struct Tryz.underlying25 (hval 0 25 v0 rfl rfl)) h0;obtain⟨A1,len1,cap1,rfl⟩:=okWide_slice Tryz.underlying26 (hval 1 26 v1 rfl rfl);obtain⟨l1,hlen1,⟨A2,cap2,hsl,hcp,hq1⟩,hb1⟩:=Gn.ints_of_Trod h1;obtain⟨rfl,rfl,rfl⟩:A1=A2∧len1=l1.length∧cap1=cap2:=by simpa using hsl
 obtain⟨m,hm⟩:=maxLen_of hsh;clear hA0 hval0;refine(Fa.sound_walk n0 k0 a0 t0 b0 ti ge bud A1 cap1 l1 W m hcp hq1 (errV_of hL) (powT_of hL) (knownA hL) hm).mono fun e W' ⟨he,bel⟩=>?_
 subst he;exact⟨_,rfl,_,_,_,[],_,[],hW',trodAll_mk1 (shut_bool Tryz.underlying4 _),trodAll_belowP laidOut bel readFarmSound hA1,rfl,bel.frame _,fun h=>by cases h⟩
set_option maxRecDepth 100000 in
theorem farmSound_lifted (os:Os) (started:os.Started) (H:Type) (enc:TypeId×Value→H):
  ReturnsInHanded {} Tryz.checked os 3 .any (fun w args=>(Rows.farmSoundSpec.pre enc Tryz.prog Tryz.f3 [] false w args∧laidMetH Tryz.prog laidA w)∧sizedMet enc Tryz.prog Tryz.f3 (OpenSpec.ofChange Rows.farmSoundSpec) false w args)
   (Rows.farmSoundSpec.post enc Tryz.prog Tryz.f3 false true false false):=by
 refine returnsInHanded_of_calls (C:=Tryz.checked) own started (by kernel_rfl)
  (ChangeSpec.witness_shaped (enc:=enc) (C:=Tryz.checked) (os:=os) (X:=fun w _=>laidMetH Tryz.prog laidA w) false (wA os) #[.agg #[.int .i64 0,.int .i64 0,.int .i64 0,.int .i64 0,.bool false,.string ⟨#[]⟩,.string ⟨#[]⟩,.int .i64 0],.slice none 0 0] 8 (wA_os os) (laidA_shaped os) (by kernel_rfl) (by kernel_rfl) (by kernel_rfl) (laidA_met os _)) ?_
 intro w tape i _ hsh _ hok hpre _;obtain⟨_,_,_,fn',hfn',_,_,_,_,hval⟩:=hok;obtain rfl:fn'=Tryz.f3:=Option.some.inj (hfn'.symm.trans Tryz.func3);obtain⟨⟨⟨ds,gs,before,hw,_⟩,hx⟩,_⟩:=hpre;have hW:=DataW.Whole.of_heap (w':=w.forCall tape i) (by rfl) hw;refine(farmSound_contract (w.forCall tape i) w.heap.size i.args ds gs before hval hW (hx.of_heap (by rfl)) hsh).mono fun e W' ⟨v,he,hp⟩=>?_
 subst he;exact ChangeSpec.post_blind hp
theorem farmSound_row:Rows.FarmSoundSaid:=
 OpenClaim.holds_of_wide 3 Tryz.f3 rfl rfl rfl rfl rfl rfl rfl ⟨rfl,rfl,rfl,rfl,rfl⟩ rfl rfl rfl rfl rfl (by kernel_rfl) Tryz.func3 farmSound_joined
  (of_decide_eq_true (by kernel_rfl)) (by unfold Func.isWrapper;rw[if_neg (of_decide_eq_false (by kernel_rfl))];exact⟨rfl,rfl⟩)
  (fun os started H enc _=>farmSound_lifted os started H enc)
theorem farmSound_holds:Rows.FarmSoundCardSaid:=
 Claim7.holds_tied_plain_at .later [] [.data, .data, .data, .data, .handle, .sentinel, .sentinel, .data, .pinned] true (true, "22a00dc201a387e2ffc145e951c482bb66fd17c913bf19988b1e823f298528d6") true
  farmSound_row (fun _ h=>by cases h) (by kernel_rfl) (fun _ h=>by cases h) farmSound_row_tie rfl ⟨rfl,rfl⟩ (by kernel_rfl) rfl
  (fun f fn hf hfn=>by
   obtain rfl : f = 3 := Option.some.inj ((show Tryz.prog.funcNamed "testimony/testimonykeep.FarmSound" = some 3 by kernel_rfl).symm.trans hf) |>.symm
   obtain rfl:fn=Tryz.f3:=(Option.some.inj (Tryz.func3.symm.trans hfn)).symm;exact⟨by kernel_rfl,fun j t ht=>by
    rw[Tryz.params3] at ht;have hm:t∈ [25,26]:=by simpa using Array.mem_of_getElem? ht
    have hall:([25,26].all fun u=> !Tryz.prog.wantsStandIn u)=true:=by kernel_rfl
    exact(show Tryz.prog.wantsStandIn t=false by simpa using List.all_eq_true.1 hall t hm)⟩)
  (by kernel_rfl)
#print axioms farmSound_holds
end Go.Proofs.YtjpklmighoondaaGreatDoor
