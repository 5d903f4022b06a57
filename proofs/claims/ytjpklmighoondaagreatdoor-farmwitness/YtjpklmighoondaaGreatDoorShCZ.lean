/-
  Package linear's Shows: walked.
  The statement FarmWitness, walked.
  Proved: whatever plan and tape are handed in, the statement FarmWitness (a report that is called valid bears an order that shows what was seen; chapter 20) returns true, and what was handed in reads behind the call as before; the listed variables (model.known among them) hold what the text lays.
-/
import Derived.Test.YtjpklmighoondaaGreatDoorFaAZ
import Derived.Test.YtjpklmighoondaaGreatDoorVerdictWZ
import Derived.Test.YtjpklmighoondaaGreatDoorPlainNZ
import Derived.Test.YtjpklmighoondaaGreatDoorJudgeWZ
import Derived.Test.YtjpklmighoondaaGreatDoorOpenF
import Derived.Test.YtjpklmighoondaaGreatDoorJfFarmWitness
namespace Go.Proofs.YtjpklmighoondaaGreatDoor
open Go.RowKit
set_option maxRecDepth 100000 in
set_option maxHeartbeats 2000000 in
theorem shows_any (o:Int) (ops:List Opn) (ord:List Int) (u v:Value) (w:World) (hlen:ops.length≤60) (hord:ord.length≤60) (hl:OpsIn w u ops) (hv:HasInts w v ord) (hK:KnownAt w):
  Calls Tryz.prog 16 #[.int .i64 o,u,v] w fun e w'=>ShTold o ops ord w e w':=by
 have hpos:0 < w.heap.size:=World.block_lt_of_cell? w ⟨0,0*13+0,none⟩ (hK 0 0 (by decide) (by decide));have HO:=hideIt (isObject_any o);have HC:=hideIt (linCheck_any o ops u w hlen hl hK);have HW:Hid (∀w1,Below w.heap.size w w1→Calls Tryz.prog 36 #[u,v] w1 fun e w'=>BoolTold (WholeP ops ord) w1 e w'):=hideIt (fun w1 hb=>isWhole_any ops ord u v w1 hlen (hl.below hb) (hv.below hb));have HT:Hid (∀w1,Below w.heap.size w w1→WholeP ops ord→Calls Tryz.prog 37 #[u,v] w1 fun e w'=>BoolTold (TimelyTo ops ord ord.length) w1 e w'):=hideIt (fun w1 hb hw=>isTimely_any ops ord u v w1 hlen (hl.below hb) (hv.below hb) hw.ok.1);have HR:Hid (∀w1,Below w.heap.size w w1→Told ops 0→Calls Tryz.prog 38 #[.int .i64 o,u,v] w1 fun e w'=>∃z,e=.returned (.int .i64 z)∧RunTold o ops ord z∧Below w1.heap.size w1 w'):=hideIt (fun w1 hb ht=>
  run_any o ops ord u v w1 (hl.below hb).has (hv.below hb) (hK.below hpos hb) (Nat.lt_of_lt_of_le hpos hb.size) hord (told_keys ht))
 clear hl hv hK;cases ho:objB o
 ·rw[ho] at HO;have HOO:=hideIt ho;clear ho;go_enter Tryz.func16,Tryz.ntmps16
  go_wp2_with (go_at_call 34;refine(HO.out _).mono ?_;rintro e w1 ⟨rfl,rfl⟩)
  go_ret2;exact⟨Below.refl _ _,.inl ⟨HOO.out,by rfl⟩⟩
 ·rw[ho] at HO;have HOO:=hideIt ho;clear ho;go_enter Tryz.func16,Tryz.ntmps16
  go_wp2_with (first | (go_at_call 34;refine(HO.out _).mono ?_;rintro e w1 ⟨rfl,rfl⟩) | fail)
  refine HC.out.mono ?_;rintro e w1 ⟨n,rfl,hct,hb1⟩;have HCT:=hideIt hct;have HB1:=hideIt hb1;clear hct hb1;by_cases hz:n=0
  ·subst hz;have HT0:Hid (Told ops 0):=hideIt (by
    rcases HCT.out with ⟨h,_⟩ | ⟨h,_⟩ | ⟨h,_⟩
    ·exact absurd rfl h
    ·exact h
    ·exact h)
   rw[toldV_zero];go_wp2_with fail
   refine(HW.out _ HB1.out).mono ?_;rintro e w2 ⟨b,rfl,hb,hb2⟩;have HB2:=hideIt (belJ HB1.out hb2);have HWB:=hideIt hb;clear hb hb2;cases b
   ·have HN:=hideIt (not_whole (o:=o) (fun h=>by have:=HWB.out.2 h;cases this));go_wp2;go_ret2;exact⟨HB2.out,.inr (.inr ⟨HOO.out,HCT.out,false,⟨fun h=>(by cases h),fun h=>absurd h HN.out⟩,rfl⟩)⟩
   ·have HWH:=hideIt (HWB.out.1 rfl);go_wp2_with fail
    refine(HT.out _ HB2.out HWH.out).mono ?_;rintro e w3 ⟨b,rfl,hb,hb3⟩;have HB3:=hideIt (belJ HB2.out hb3);have HTB:=hideIt hb;clear hb hb3;cases b
    ·have HN:=hideIt (not_timely (o:=o) (fun h=>by have:=HTB.out.2 h;cases this));go_wp2;go_ret2;exact⟨HB3.out,.inr (.inr ⟨HOO.out,HCT.out,false,⟨fun h=>(by cases h),fun h=>absurd h HN.out⟩,rfl⟩)⟩
    ·have HTI:=hideIt (HTB.out.1 rfl);go_wp2_with fail
     refine(HR.out _ HB3.out HT0.out).mono ?_;rintro e w4 ⟨z,rfl,hrt,hb4⟩;have HB4:=hideIt (belJ HB3.out hb4);have HS:=hideIt (showsM_of HWH.out HTI.out hrt);clear hrt hb4;go_wp2;go_ret2;exact⟨HB4.out,.inr (.inr ⟨HOO.out,HCT.out,(z== -1),HS.out,rfl⟩)⟩
  ·rw[toldV_some hz];go_wp2;go_ret2;exact⟨HB1.out,.inr (.inl ⟨HOO.out,n,hz,HCT.out,by rw[toldV_some hz];rfl⟩)⟩
theorem lc_zero {o bud:Int} {ops:List Opn} (h:LcTold o bud ops 0):objB o=true∧CkTold o ops 0∧0≤bud∧bud≤1000000:=by
 rcases h with ⟨_,h⟩ | ⟨_,_,h⟩ | ⟨h1,h2,h3,h4⟩
 ·cases h
 ·cases h
 ·exact⟨h1,h4,h2,h3⟩
theorem ord_has {w:World} {base:Nat} {ov:Value} {ord:List Nat} (h:w.ownsRow base 3 1 ov ord.length (ordV ord)):HasInts w ov (iL ord):=by
 have e:ordV ord=(iL ord).map (Value.int .i64):=by simp[ordV,iL]
 have:w.ownsRow base 3 1 ov (iL ord).length ((iL ord).map (Value.int .i64)):=by rw[iL_length,←e];exact h
 exact(rowAt_owns this).has
theorem nil_has (w:World):HasInts w (.slice none 0 0) []:=⟨none,0,rfl,by decide,by decide,fun _=>rfl,.inl rfl⟩
theorem sh_zero {o:Int} {ops:List Opn} {ord:List Int} {w:World} {e:Ending} {w':World} (h:ShTold o ops ord w e w') (ho:objB o=true) (hc:CkTold o ops 0):∃b,e=.returned (.tuple #[.bool b,.nilIface])∧(b=true↔ShowsM o ops ord):=by
 obtain⟨_,⟨ho',_⟩ | ⟨_,n,hn,hc',_⟩ | ⟨_,_,b,hb,he⟩⟩:=h
 ·rw[ho] at ho';cases ho'
 ·exact absurd (ckTold_one hc' hc) hn
 ·exact⟨b,he,hb⟩
theorem valid_shows {o:Int} {ops:List Opn} {bud:Nat} (h:(searchM (srB o ops bud)).code=1):ShowsM o ops (iL (searchM (srB o ops bud)).ord):=by
 obtain⟨S,hR,ho⟩:=search_valid h;exact reach_shows hR ho rfl
theorem valid_len {o:Int} {ops:List Opn} {bud:Nat} (h:(searchM (srB o ops bud)).code=1):(searchM (srB o ops bud)).ord.length≤ops.length:=by
 obtain⟨S,hR,_⟩:=search_valid h;exact reach_length hR
end Go.Proofs.YtjpklmighoondaaGreatDoor
namespace Go.Proofs.YtjpklmighoondaaGreatDoor.Fa
open Go.RowKit
set_option maxRecDepth 100000 in
set_option maxHeartbeats 8000000 in
theorem wit_any (n k ask tell:Int) (back:Bool) (ti:ByteArray) (ge:Gn.Bt) (bud:Int) (a:Option Addr) (cap:Nat) (l:List Int) (w:World) (m:Int) (hcap:l.length≤cap)
  (hl:l= []∨∃b off,a=some ⟨b,off,none⟩∧b < w.heap.size∧∀i,(h:i < l.length)→w.cell? ⟨b,off+i,none⟩=some (.int .i64 l[i])) (hv:Gn.ErrV w) (hp:Gn.PowT w) (hK:KnownAt w) (hm:w.cell? ⟨1,0,none⟩=some (.int .i64 m)):
  Calls Tryz.prog 5 #[.agg #[.int .i64 n,.int .i64 k,.int .i64 ask,.int .i64 tell,.bool back,.string ti,.string (Gn.ba ge),.int .i64 bud],.slice a l.length cap] w fun e w'=>e=.returned (.bool true)∧Below w.heap.size w w':=by
 have hpos:0 < w.heap.size:=World.block_lt_of_cell? w ⟨0,0*13+0,none⟩ (hK 0 0 (by decide) (by decide));have hsz:=Gn.ba_size ge;have HB0:Hid (Below w.heap.size w (w.alloc (.cells #[.int .i64 n,.int .i64 k,.int .i64 ask,.int .i64 tell,.bool back,.string ti,.string (Gn.ba ge),.int .i64 bud] 25))):=hideIt (St.belA (Below.refl _ _) _);by_cases h200:200 < l.length
 ·clear hv hp hm hK hpos hl;go_enter Tryz.func5,Tryz.ntmps5
  go_wp2;go_ret;exact⟨rfl,HB0.out⟩
 by_cases h500:500 < ge.length
 ·clear hv hp hm hK hpos hl;go_enter Tryz.func5,Tryz.ntmps5
  go_wp2;go_ret;exact⟨rfl,HB0.out⟩
 have hd1:decide ((200:Int) < (l.length:Int))=false:=decide_eq_false (by omega);have hd2:decide ((500:Int) < (ge.length:Int))=false:=decide_eq_false (by omega);have HTr:Hid (∀Z,Below w.heap.size w Z→Calls Tryz.prog 6 #[] Z fun e w'=>e=.returned (.bool true)∧Below Z.heap.size Z w'):=fun Z hZ=>
  tried_any m Z (hv.fr (Gn.fr_below hZ []) (by simp) (by simp)) (hp.fr (Gn.fr_below hZ []) (by simp)) ((hZ.cell (p:=⟨1,0,none⟩) (World.block_lt_of_cell? w _ hm)).trans hm) (hK.below hpos hZ)
 have HRn:Hid (∀Z,Below w.heap.size w Z→Calls Tryz.prog 9 #[.agg #[.int .i64 n,.int .i64 k,.int .i64 ask,.int .i64 tell,.bool back,.string ti,.string (Gn.ba ge),.int .i64 2000],.slice a l.length cap] Z (RunTold n k ask tell back ti ge 2000 l Z)):=fun Z hZ=>
  run_any n k ask tell back ti ge 2000 a cap l Z (by omega) hcap (hl.imp id fun⟨b,off,e,hb,hh⟩=>⟨b,off,e,Nat.lt_of_lt_of_le hb hZ.size,fun i hi=>(hZ.cell (p:=⟨b,off+i,none⟩) hb).trans (hh i hi)⟩) (hv.fr (Gn.fr_below hZ []) (by simp) (by simp)) (hK.below hpos hZ)
 have HK:Hid (∀Z,Below w.heap.size w Z→KnownAt Z):=fun Z hZ=>hK.below hpos hZ
 have HB1:Hid (Below w.heap.size w (w.alloc (.cells #[.int .i64 n,.int .i64 k,.int .i64 ask,.int .i64 tell,.bool back,.string ti,.string (Gn.ba ge),.int .i64 2000] 25))):=hideIt (St.belA (Below.refl _ _) _);clear hv hp hm hK hpos hl h200 h500 hcap HB0;go_enter Tryz.func5,Tryz.ntmps5
 go_wp2_with fail
 refine(HRn.out _ HB1.out).mono ?_;rintro e W1 htold;clear HRn hd1 hd2;rcases htold with ⟨Ty,x,rfl,_,hb1⟩ | ⟨_,n2,k2,a2,t2,e1,e2,e3,e4,_,g,T1,T2,b,_,_,_,hb,hG,hok,hb1,v',L,ho,hO,h40,ov,rfl,ho1,ho2⟩
 ·have HX:=hideIt (St.belA (St.belJ HB1.out hb1) rep0C);have HXr:Hid ((W1.alloc rep0C).heap[W1.heap.size]?=some (.cells #[.string ⟨#[]⟩,.slice none 0 0,.int .i64 0,.slice none 0 0,.int .i64 0] 36 (0,0))):=heap_alloc_new W1 _;clear hb1;unfold rep0;go_wp2_with fail
  refine(HTr.out _ HX.out).mono ?_;rintro e W2 ⟨rfl,hb2⟩;have HX2:=hideIt (St.belJ HX.out hb2);have HR2:=hideIt ((hb2.block W1.heap.size (by rw[World.size_alloc];omega)).trans HXr.out);clear hb2 HXr;go_wp2_with fail
  refine(HTr.out _ HX2.out).mono ?_;rintro e W3 ⟨rfl,hb3⟩;have HX3:=hideIt (St.belJ HX2.out hb3);have d2:W3.cell? ⟨W1.heap.size,2,none⟩=some (.int .i64 0):=by
   rw[cell_of_row _ _ _ _ 36 _ ((hb3.block W1.heap.size (lt_of_heap HR2.out)).trans HR2.out)];rfl
  clear hb3;go_wp2;go_ret;exact⟨rfl,HX3.out⟩
 obtain⟨hok1,hok2,hok3⟩:=hok;obtain⟨hob,hck,_,_⟩:=lc_zero (hok3 L hO h40);have HCK:=hideIt hck;obtain⟨oa,on,oc,ord,rfl,hI,hol,hcs⟩:∃a n c,∃ord:List Int,ov=.slice a n c∧HasInts W1 ov ord∧ord.length≤60∧((searchM (srB 1 L (2000:Int).toNat)).code=1→ShowsM 1 L ord):=by
  by_cases h1:(searchM (srB 1 L (2000:Int).toNat)).code=1
  ·obtain⟨a,c,e⟩:=St.ownsRow_slice (ho1 h1);exact⟨a,_,c,_,e,ord_has (ho1 h1),by rw[iL_length];have:=valid_len h1;omega,fun _=>valid_shows h1⟩
  ·refine⟨none,0,0,[],ho2 h1,?_,by simp,fun h=>absurd h h1⟩;rw[ho2 h1];exact nil_has W1
 obtain⟨va,vc,rfl,hin⟩:=evs_in ho;have HIn:=hideIt hin;have HI:=hideIt hI;have HOl:=hideIt hol;have HCs:=hideIt hcs;have HOk:=hideIt (And.intro hok1 (And.intro hok2 (And.intro hO h40)));have hX:=St.belA (St.belJ HB1.out hb1) (.cells #[.string ti,.slice va (T2.p.evs.map toEv).length vc,.int .i64 ((searchM (srB 1 L (2000:Int).toNat)).code:Int),.slice oa on oc,.int .i64 ((searchM (srB 1 L (2000:Int).toNat)).ent.length:Int)] 36);have hXr:(W1.alloc (.cells #[.string ti,.slice va (T2.p.evs.map toEv).length vc,.int .i64 ((searchM (srB 1 L (2000:Int).toNat)).code:Int),.slice oa on oc,.int .i64 ((searchM (srB 1 L (2000:Int).toNat)).ent.length:Int)] 36)).heap[W1.heap.size]?=some (.cells #[.string ti,.slice va (T2.p.evs.map toEv).length vc,.int .i64 ((searchM (srB 1 L (2000:Int).toNat)).code:Int),.slice oa on oc,.int .i64 ((searchM (srB 1 L (2000:Int).toNat)).ent.length:Int)] 36 (0,0)):=heap_alloc_new W1 _;have hXb:Below W1.heap.size W1 (W1.alloc (.cells #[.string ti,.slice va (T2.p.evs.map toEv).length vc,.int .i64 ((searchM (srB 1 L (2000:Int).toNat)).code:Int),.slice oa on oc,.int .i64 ((searchM (srB 1 L (2000:Int).toNat)).ent.length:Int)] 36)):=St.belA (Below.refl _ _) _;clear hb1 ho hO h40 ho1 ho2 hI hol hcs hok1 hok2 hok3 hob hck hb hG e1 e2 e3 e4 hin;generalize hlv:T2.p.evs.map toEv=lv at*
 generalize (searchM (srB 1 L (2000:Int).toNat)).ent.length=el at*
 generalize (searchM (srB 1 L (2000:Int).toNat)).code=cd at*
 have HX:=hideIt hX;have HXr:=hideIt hXr;have HXb:=hideIt hXb;have HLv:Hid (lv.length≤120):=by
  rw[←hlv,List.length_map];exact HOk.out.1
 clear hX hXr hXb hlv;go_wp2_with fail
 refine(HTr.out _ HX.out).mono ?_;clear HTr;rintro e W2 ⟨rfl,hb2⟩;have hb12:=St.belJ HXb.out hb2;have hX2:=St.belJ HX.out hb2;have hR2:=(hb2.block W1.heap.size (by rw[World.size_alloc];omega)).trans HXr.out;have HO2:Hid (Calls Tryz.prog 15 #[.slice va lv.length vc] W2 fun e w'=>∃a cap L,e=.returned (.tuple #[.slice a L.length cap,.nilIface])∧OpsOf (hist lv lv.length) L∧OpsIn w' (.slice a L.length cap) L∧L.length≤1000∧Below W2.heap.size W2 w'):=by
  rcases HIn.out with h0 | ⟨vb,rfl,hvb,hE⟩
  ·rw[h0];have hf:=HOk.out.2.1;rw[h0] at hf;exact(evOps_none va vc W2).mono fun e w' h=>ops_fine hf (by decide) h
  ·exact(evOps_some _ vb 0 vc W2 HLv.out (hE.below hvb hb12) (Nat.lt_of_lt_of_le hvb hb12.size)).mono fun e w' h=>ops_fine HOk.out.2.1 HLv.out h
 have HB12:=hideIt hb12;have HX2:=hideIt hX2;have HR2:=hideIt hR2;have d1:W2.cell? ⟨W1.heap.size,1,none⟩=some (.slice va lv.length vc):=by
  rw[cell_of_row _ _ _ _ 36 _ hR2];rfl
 clear hb2 hb12 hX2 hR2 HXr HXb HX HIn;go_wp2_with fail
 refine HO2.out.mono ?_;clear HO2;rintro e W3 ⟨ao,co,L2,rfl,hO2,hIn2,_,hb3⟩;obtain rfl:L=L2:=opsOf_same (inv_hist _ _ (Nat.le_refl _) HOk.out.2.1) HOk.out.2.2.1 hO2;have h40:=HOk.out.2.2.2;have hX3:=St.belJ HX2.out hb3;have HSh:=hideIt (shows_any 1 L ord (.slice ao L.length co) (.slice oa on oc) W3 (by omega) HOl.out hIn2 ((HI.out.below HB12.out).below hb3) (HK.out _ hX3));have hR3:=(hb3.block W1.heap.size (lt_of_heap HR2.out)).trans HR2.out;have d3:W3.cell? ⟨W1.heap.size,3,none⟩=some (.slice oa on oc):=by
  rw[cell_of_row _ _ _ _ 36 _ hR3];rfl
 have HX3:=hideIt hX3;have HR3:=hideIt hR3;have hd40:decide ((40:Int) < (L.length:Int))=false:=decide_eq_false (by omega);clear hO2 hIn2 hb3 hX3 hR3 d1 HB12 HX2 HR2 HI HOl HLv;go_wp2_with fail
 refine HSh.out.mono ?_;intro e W4 hsh;have hb4:=hsh.1;obtain⟨b2,rfl,hbb⟩:=sh_zero hsh rfl HCK.out;have d2:W4.cell? ⟨W1.heap.size,2,none⟩=some (.int .i64 (cd:Int)):=by
  rw[cell_of_row _ _ _ _ 36 _ ((hb4.block W1.heap.size (lt_of_heap HR3.out)).trans HR3.out)];rfl
 have HX4:=hideIt (St.belJ HX3.out hb4);have HBB:=hideIt hbb;clear hb4 hsh hbb d3 HSh HX3 HR3;by_cases h1:cd=1
 ·obtain rfl:b2=true:=HBB.out.2 (HCs.out h1);subst h1;go_wp2;go_ret;exact⟨rfl,HX4.out⟩
 ·have hcd:((cd:Int) != 1)=true:=by simp;omega
  go_wp2;go_ret;exact⟨rfl,HX4.out⟩
end Go.Proofs.YtjpklmighoondaaGreatDoor.Fa
namespace Go.Proofs.YtjpklmighoondaaGreatDoor
open Go.ChangeShapes Go.WideShapes Go.ChangeAt Go.RowKit
theorem readFarmWitness:∀t∈ [25,26],Tryz.prog.readableRec t=true∧t < Tryz.prog.types.size:=by
 intro t ht;simp only[List.mem_cons,List.not_mem_nil,or_false] at ht;rcases ht with rfl | rfl<;>exact⟨by kernel_rfl,of_decide_eq_true (by kernel_rfl)⟩
set_option maxRecDepth 100000 in
theorem farmWitness_contract {H:Type} {enc:TypeId×Value→H} (W:World) (base:Nat) (args:Array Value) (ds gs:List (DataW H)) (before:List MemPlace)
  (hval0:∀(j:Nat) t v,Tryz.f5.params[j]?=some t→args[j]?=some v→Value.okWide Tryz.prog W .any base t v)
  (hW:DataW.Whole enc Tryz.prog Tryz.f5.params.toList Rows.farmWitnessSpec.vars false W args.toList ds gs before) (hL:laidMetH Tryz.prog laidA W) (hsh:W.ShapedOpen Tryz.prog):
  Calls Tryz.prog 5 args W fun e W'=>∃v,e=.returned v∧Rows.farmWitnessSpec.post enc Tryz.prog Tryz.f5 false true false false W args v W':=by
 have hval:∀(j:Nat) t v,Tryz.f5.params[j]?=some t→args[j]?=some v→Value.okWide Tryz.prog W .any base t v:=hval0;have hW':=hW;obtain⟨p,q,hA0,hV,rfl,hfz,hnd⟩:=hW;have hA:DataW.TrodAll enc Tryz.prog W 0 (fun _=>true) true Tryz.f5.params.toList args.toList ds p:=hA0;rw[Tryz.params5] at hA hval;have hA1:=hA;obtain⟨v0,vs0,d0,ds0,p0,q0,e0,rfl,rfl,h0,hA⟩:=trodAll_cons hA;obtain⟨v1,vs1,d1,ds1,p1,q1,rfl,rfl,rfl,h1,hA⟩:=trodAll_cons hA;obtain⟨rfl,rfl,rfl⟩:=trodAll_nil hA;obtain rfl:args=#[v0,v1]:=by
  rw[←Array.toArray_toList (xs:=args),e0]
 obtain⟨rfl,rfl⟩:=trodVars_none hV;obtain⟨n0,k0,a0,t0,b0,ti,ge,bud,rfl⟩:=plan_of_Trod (okWide_struct Tryz.underlying25 (hval 0 25 v0 rfl rfl)) h0;obtain⟨A1,len1,cap1,rfl⟩:=okWide_slice Tryz.underlying26 (hval 1 26 v1 rfl rfl);obtain⟨l1,hlen1,⟨A2,cap2,hsl,hcp,hq1⟩,hb1⟩:=Gn.ints_of_Trod h1;obtain⟨rfl,rfl,rfl⟩:A1=A2∧len1=l1.length∧cap1=cap2:=by simpa using hsl
 obtain⟨m,hm⟩:=maxLen_of hsh;clear hA0 hval0;refine(Fa.wit_any n0 k0 a0 t0 b0 ti ge bud A1 cap1 l1 W m hcp hq1 (errV_of hL) (powT_of hL) (knownA hL) hm).mono fun e W' ⟨he,bel⟩=>?_
 subst he;exact⟨_,rfl,_,_,_,[],_,[],hW',trodAll_mk1 (shut_bool Tryz.underlying4 _),trodAll_belowP laidOut bel readFarmWitness hA1,rfl,bel.frame _,fun h=>by cases h⟩
set_option maxRecDepth 100000 in
theorem farmWitness_lifted (os:Os) (started:os.Started) (H:Type) (enc:TypeId×Value→H):
  ReturnsInHanded {} Tryz.checked os 5 .any (fun w args=>(Rows.farmWitnessSpec.pre enc Tryz.prog Tryz.f5 [] false w args∧laidMetH Tryz.prog laidA w)∧sizedMet enc Tryz.prog Tryz.f5 (OpenSpec.ofChange Rows.farmWitnessSpec) false w args)
   (Rows.farmWitnessSpec.post enc Tryz.prog Tryz.f5 false true false false):=by
 refine returnsInHanded_of_calls (C:=Tryz.checked) own started (by kernel_rfl)
  (ChangeSpec.witness_shaped (enc:=enc) (C:=Tryz.checked) (os:=os) (X:=fun w _=>laidMetH Tryz.prog laidA w) false (wA os) #[.agg #[.int .i64 0,.int .i64 0,.int .i64 0,.int .i64 0,.bool false,.string ⟨#[]⟩,.string ⟨#[]⟩,.int .i64 0],.slice none 0 0] 8 (wA_os os) (laidA_shaped os) (by kernel_rfl) (by kernel_rfl) (by kernel_rfl) (laidA_met os _)) ?_
 intro w tape i _ hsh _ hok hpre _;obtain⟨_,_,_,fn',hfn',_,_,_,_,hval⟩:=hok;obtain rfl:fn'=Tryz.f5:=Option.some.inj (hfn'.symm.trans Tryz.func5);obtain⟨⟨⟨ds,gs,before,hw,_⟩,hx⟩,_⟩:=hpre;have hW:=DataW.Whole.of_heap (w':=w.forCall tape i) (by rfl) hw;refine(farmWitness_contract (w.forCall tape i) w.heap.size i.args ds gs before hval hW (hx.of_heap (by rfl)) hsh).mono fun e W' ⟨v,he,hp⟩=>?_
 subst he;exact ChangeSpec.post_blind hp
theorem farmWitness_row:Rows.FarmWitnessSaid:=
 OpenClaim.holds_of_wide 5 Tryz.f5 rfl rfl rfl rfl rfl rfl rfl ⟨rfl,rfl,rfl,rfl,rfl⟩ rfl rfl rfl rfl rfl (by kernel_rfl) Tryz.func5 farmWitness_joined
  (of_decide_eq_true (by kernel_rfl)) (by unfold Func.isWrapper;rw[if_neg (of_decide_eq_false (by kernel_rfl))];exact⟨rfl,rfl⟩)
  (fun os started H enc _=>farmWitness_lifted os started H enc)
theorem farmWitness_holds:Rows.FarmWitnessCardSaid:=
 Claim7.holds_tied_plain_at .later [] [.data, .data, .data, .data, .handle, .sentinel, .sentinel, .data, .pinned] true (true, "22a00dc201a387e2ffc145e951c482bb66fd17c913bf19988b1e823f298528d6") true
  farmWitness_row (fun _ h=>by cases h) (by kernel_rfl) (fun _ h=>by cases h) farmWitness_row_tie rfl ⟨rfl,rfl⟩ (by kernel_rfl) rfl
  (fun f fn hf hfn=>by
   obtain rfl : f = 5 := Option.some.inj ((show Tryz.prog.funcNamed "testimony/testimonykeep.FarmWitness" = some 5 by kernel_rfl).symm.trans hf) |>.symm
   obtain rfl:fn=Tryz.f5:=(Option.some.inj (Tryz.func5.symm.trans hfn)).symm;exact⟨by kernel_rfl,fun j t ht=>by
    rw[Tryz.params5] at ht;have hm:t∈ [25,26]:=by simpa using Array.mem_of_getElem? ht
    have hall:([25,26].all fun u=> !Tryz.prog.wantsStandIn u)=true:=by kernel_rfl
    exact(show Tryz.prog.wantsStandIn t=false by simpa using List.all_eq_true.1 hall t hm)⟩)
  (by kernel_rfl)
#print axioms farmWitness_holds
end Go.Proofs.YtjpklmighoondaaGreatDoor
