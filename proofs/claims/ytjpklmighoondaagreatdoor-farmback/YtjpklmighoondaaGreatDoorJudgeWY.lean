/-
  Package linear's judge and Check: walked.
  What the search tells of two ops: what was written is read, and nothing else.
  Package linear's Check, and the statements' own told: walked.
  Rows of one's own and blocks: small facts that each walk uses.
-/
import Derived.Test.YtjpklmighoondaaGreatDoorVerdictWY
import Derived.Laws.EntriesVeiled
import Derived.Test.YtjpklmighoondaaGreatDoorGnPY
import Derived.Maps.AppendAt
import Derived.Deep.RegionLaw
import Derived.WalkSmall
set_option maxRecDepth 100000
namespace Go.Proofs.YtjpklmighoondaaGreatDoor
open Go.RowKit
def srB (o:Int) (ops:List Opn) (bud:Nat):Sr:=⟨o,ops,beforeB,bud,nameB⟩
def JTold (o bud:Int) (ops:List Opn) (w:World) (e:Ending) (w':World):Prop:=
 Below w.heap.size w w'∧((∃n,n≠0∧LcTold o bud ops n∧e=.returned (.tuple #[.agg #[.int .i64 0,.slice none 0 0,.int .i64 0],toldV n]))∨
  (LcTold o bud ops 0∧∃ov,e=.returned (.tuple #[.agg #[.int .i64 ((searchM (srB o ops bud.toNat)).code:Int),ov,.int .i64 ((searchM (srB o ops bud.toNat)).ent.length:Int)],.nilIface])∧
   ((searchM (srB o ops bud.toNat)).code=1→w'.ownsRow w.heap.size 3 1 ov (searchM (srB o ops bud.toNat)).ord.length (ordV (searchM (srB o ops bud.toNat)).ord))∧((searchM (srB o ops bud.toNat)).code≠1→ov=.slice none 0 0)))
theorem ownsRow_base {w:World} {base base':Nat} {e:TypeId} {size:Nat} {v:Value} {n:Nat} {xs:List Value} (h:w.ownsRow base e size v n xs) (hb:base'≤base):w.ownsRow base' e size v n xs:=by
 obtain⟨hl,h | ⟨g,cap,cur,rfl,h0,h1⟩⟩:=h
 ·exact⟨hl,.inl h⟩
 ·exact⟨hl,.inr ⟨g,cap,cur,rfl,by omega,h1⟩⟩
theorem pre_mk {o:Int} {ops:List Opn} {bud:Nat} {u:Value} {w1:World} {b0:Nat} (hops:OpsIn w1 u ops) (hK:KnownAt w1) (hb0:b0≤w1.heap.size) (hopsb:∀a n c,u=.slice (some a) n c→0 < n→a.block < b0) (hpos:0 < b0):
  PreV o ops bud u b0 (w1.heap.size+1) w1.heap.size ((w1.alloc (.map #[] 0)).alloc (.cells #[.int .i64 o,u,.int .i64 bud,.func (.func 86) #[] #[],.slice none 0 0,.int .u64 0,.map (some w1.heap.size),.int .u64 0,.slice none 0 0,.slice none 0 0,.slice none 0 0,.slice none 0 0,.slice none 0 0,.slice none 0 0,.slice none 0 0,.slice none 0 0,.slice none 0 0,.slice none 0 0] 272)):=by
 have hb:Below w1.heap.size w1 ((w1.alloc (.map #[] 0)).alloc (.cells #[.int .i64 o,u,.int .i64 bud,.func (.func 86) #[] #[],.slice none 0 0,.int .u64 0,.map (some w1.heap.size),.int .u64 0,.slice none 0 0,.slice none 0 0,.slice none 0 0,.slice none 0 0,.slice none 0 0,.slice none 0 0,.slice none 0 0,.slice none 0 0,.slice none 0 0,.slice none 0 0] 272)):=belA (belA (Below.refl _ _) _) _;refine⟨?_,?_,hops.below hb,hopsb,hK.below (by omega) hb,hpos,by omega,hb0⟩
 ·have:=heap_alloc_new (w1.alloc (.map #[] 0)) (.cells #[.int .i64 o,u,.int .i64 bud,.func (.func 86) #[] #[],.slice none 0 0,.int .u64 0,.map (some w1.heap.size),.int .u64 0,.slice none 0 0,.slice none 0 0,.slice none 0 0,.slice none 0 0,.slice none 0 0,.slice none 0 0,.slice none 0 0,.slice none 0 0,.slice none 0 0,.slice none 0 0] 272)
  simpa [blkG,nilS,fnB] using this
 ·refine(setS_made w1).same (Below.heap_alloc _ _ _ (by simp))
set_option maxHeartbeats 4000000 in
theorem judge_any (o bud:Int) (ops:List Opn) (u:Value) (w:World) (hlen:ops.length≤60) (hl:OpsIn w u ops) (hK:KnownAt w):
  Calls Tryz.prog 118 #[.int .i64 o,u,.int .i64 bud,.func (.func 86) #[] #[]] w fun e w'=>JTold o bud ops w e w':=by
 have hpos:0 < w.heap.size:=World.block_lt_of_cell? w ⟨0,0*13+0,none⟩ (hK 0 0 (by decide) (by decide));have HO:=hideIt (isObject_any o);have hb1:Below w.heap.size w (w.alloc (.cells #[.int .i64 0,.slice none 0 0,.int .i64 0] 34)):=belA (Below.refl _ _) _;have HC:Hid (Calls Tryz.prog 35 #[.int .i64 o,u] (w.alloc (.cells #[.int .i64 0,.slice none 0 0,.int .i64 0] 34)) fun e w'=>∃n,e=.returned (toldV n)∧CkTold o ops n∧Below (w.alloc (.cells #[.int .i64 0,.slice none 0 0,.int .i64 0] 34)).heap.size (w.alloc (.cells #[.int .i64 0,.slice none 0 0,.int .i64 0] 34)) w'):=hideIt (linCheck_any o ops u _ hlen (hl.below hb1) (hK.below hpos hb1));have hmm:= @run_makeMap Tryz.prog;have HL:=hideIt hl;have HK:=hideIt hK;obtain⟨ua,ucap,rfl,huc,hum,hu3⟩:=hl;have HB1:=hideIt hb1;clear hK hu3 hb1;cases ho:objB o
 ·rw[ho] at HO;have HX:Hid (JTold o bud ops w (.returned (.tuple #[.agg #[.int .i64 0,.slice none 0 0,.int .i64 0],toldV 1])) (w.alloc (.cells #[.int .i64 0,.slice none 0 0,.int .i64 0] 34))):=hideIt ⟨HB1.out,.inl ⟨1,by decide,.inl ⟨ho,rfl⟩,rfl⟩⟩;clear ho;go_enter Tryz.func118,Tryz.ntmps118
  go_wp2_with (go_at_call 34;refine(HO.out _).mono ?_;rintro e w1 ⟨rfl,rfl⟩)
  refine bodyPost_ret (v:=.tuple #[.agg #[.int .i64 0,.slice none 0 0,.int .i64 0],.iface 55 (.int .i64 1)]) (by simp[results,Tryz.results118,go_sem]) rfl ?_;have:=HX.out;rw[toldV_some (by decide:(1:Int)≠0)] at this;exact this
 ·rw[ho] at HO;have HOO:=hideIt ho;clear ho;by_cases hbd:bud < 0∨1000000 < bud
  ·have HX:Hid (JTold o bud ops w (.returned (.tuple #[.agg #[.int .i64 0,.slice none 0 0,.int .i64 0],toldV 2])) (w.alloc (.cells #[.int .i64 0,.slice none 0 0,.int .i64 0] 34))):=hideIt ⟨HB1.out,.inl ⟨2,by decide,.inr (.inl ⟨HOO.out,hbd,rfl⟩),rfl⟩⟩;rw[toldV_some (by decide:(2:Int)≠0)] at HX;by_cases h0:bud < 0
   ·have h0':decide (bud < 0)=true:=by simpa using h0
    clear hbd;go_enter Tryz.func118,Tryz.ntmps118
    go_wp2_with (go_at_call 34;refine(HO.out _).mono ?_;rintro e w1 ⟨rfl,rfl⟩)
    exact bodyPost_ret (v:=.tuple #[.agg #[.int .i64 0,.slice none 0 0,.int .i64 0],.iface 55 (.int .i64 2)]) (by simp[results,Tryz.results118,go_sem]) rfl HX.out
   ·have h0':decide (bud < 0)=false:=by simpa using h0
    have h1':decide (1000000 < bud)=true:=by simp;omega
    clear hbd;go_enter Tryz.func118,Tryz.ntmps118
    go_wp2_with (go_at_call 34;refine(HO.out _).mono ?_;rintro e w1 ⟨rfl,rfl⟩)
    exact bodyPost_ret (v:=.tuple #[.agg #[.int .i64 0,.slice none 0 0,.int .i64 0],.iface 55 (.int .i64 2)]) (by simp[results,Tryz.results118,go_sem]) rfl HX.out
  ·have h0':decide (bud < 0)=false:=by simp;omega
   have h1':decide (1000000 < bud)=false:=by simp;omega
   obtain⟨bn,rfl⟩:∃bn:Nat,bud=bn:=⟨bud.toNat,by omega⟩;have hbn:bn≤1000000:=by omega
   have HLC:Hid (∀n,CkTold o ops n→LcTold o bn ops n):=hideIt (fun n h=>.inr (.inr ⟨HOO.out,by omega,by omega,h⟩));clear hbd;go_enter Tryz.func118,Tryz.ntmps118
   go_wp2_with (first | (go_at_call 34;refine(HO.out _).mono ?_;rintro e w1 ⟨rfl,rfl⟩) | fail)
   refine HC.out.mono ?_;rintro e w1 ⟨n,rfl,hct,hb1⟩;have hbw:=belJ HB1.out hb1;have hR:w1.heap[w.heap.size]?=some z33:=(hb1.block w.heap.size (by simp)).trans (heap_alloc_new w _);have t0:w1.cell? ⟨w.heap.size,0,none⟩=some (.int .i64 0):=cell_of_row w1 _ _ _ 34 (0,0) hR;have t1:w1.cell? ⟨w.heap.size,1,none⟩=some (.slice none 0 0):=cell_of_row w1 _ _ _ 34 (0,0) hR;have t2:w1.cell? ⟨w.heap.size,2,none⟩=some (.int .i64 0):=cell_of_row w1 _ _ _ 34 (0,0) hR;have t3:∀i,w1.frozen? ⟨w.heap.size,i,none⟩=false:=fun i=>frozen_of_row w1 _ _ _ 34 hR
   have hlt:=lt_of_heap hR;have HR:=hideIt hR;have HBW:=hideIt hbw;have HCT:=hideIt hct;clear hct hb1 hbw hR;by_cases hz:n=0
   ·subst hz;rw[toldV_zero];have ht:=ckTold_told HCT.out;have hpre:=pre_mk (o:=o) (bud:=bn) (b0:=w1.heap.size) (HL.out.below HBW.out) (HK.out.below hpos HBW.out) (Nat.le_refl _) (fun a m c e h0=>by
     obtain⟨a',cap',e',_,_,ho⟩:=HL.out.below HBW.out;rcases ho with ho | ⟨b,off,e2,hlt,_⟩
     ·rw[e'] at e;simp at e;rw[ho] at e;simp at e;omega
     ·rw[e',e2] at e;simp at e;rw[←e.1];exact hlt) (Nat.lt_of_lt_of_le hpos HBW.out.size)
    have HV:=hideIt (verdict_any o ops bn _ w1.heap.size (w1.heap.size+1) w1.heap.size _ hpre hlen hbn (told_keysN ht) (told_nums ht));have hpb:Below w1.heap.size w1 ((w1.alloc (.map #[] 0)).alloc (.cells #[.int .i64 o,.slice ua ops.length ucap,.int .i64 bn,.func (.func 86) #[] #[],.slice none 0 0,.int .u64 0,.map (some w1.heap.size),.int .u64 0,.slice none 0 0,.slice none 0 0,.slice none 0 0,.slice none 0 0,.slice none 0 0,.slice none 0 0,.slice none 0 0,.slice none 0 0,.slice none 0 0,.slice none 0 0] 272)):=belA (belA (Below.refl _ _) _) _;have HPB:=hideIt hpb;clear ht hpre hpb;go_wp2_with fail
    refine HV.out.mono ?_;rintro e w2 ⟨ov,rfl,hb2,ho1,ho2⟩;have hbb:=HPB.out.trans hb2;have hR2:w2.heap[w.heap.size]?=some z33:=(hbb.block w.heap.size hlt).trans HR.out;have s0:w2.cell? ⟨w.heap.size,0,none⟩=some (.int .i64 0):=cell_of_row w2 _ _ _ 34 (0,0) hR2;have s1:w2.cell? ⟨w.heap.size,1,none⟩=some (.slice none 0 0):=cell_of_row w2 _ _ _ 34 (0,0) hR2;have s2:w2.cell? ⟨w.heap.size,2,none⟩=some (.int .i64 0):=cell_of_row w2 _ _ _ 34 (0,0) hR2;have s3:∀i,w2.frozen? ⟨w.heap.size,i,none⟩=false:=fun i=>frozen_of_row w2 _ _ _ 34 hR2
    have hov:∃a l c,ov=.slice a l c:=by
     by_cases h1:(searchM ⟨o,ops,beforeB,bn,nameB⟩).code=1
     ·obtain⟨a,c,e⟩:=ownsRow_slice (ho1 h1);exact⟨a,_,c,e⟩
     ·exact⟨_,_,_,ho2 h1⟩
    have HX:Hid (JTold o bn ops w (.returned (.tuple #[.agg #[.int .i64 ((searchM ⟨o,ops,beforeB,bn,nameB⟩).code:Int),ov,.int .i64 ((searchM ⟨o,ops,beforeB,bn,nameB⟩).ent.length:Int)],.nilIface])) (((w2.setCell ⟨w.heap.size,0,none⟩ (.int .i64 ((searchM ⟨o,ops,beforeB,bn,nameB⟩).code:Int))).setCell ⟨w.heap.size,1,none⟩ ov).setCell ⟨w.heap.size,2,none⟩ (.int .i64 ((searchM ⟨o,ops,beforeB,bn,nameB⟩).ent.length:Int)))):=hideIt (by
     refine⟨(((HBW.out.trans (hbb.mono HBW.out.size)).setCell (p:=⟨w.heap.size,0,none⟩) (Nat.le_refl _) _).setCell (p:=⟨w.heap.size,1,none⟩) (Nat.le_refl _) _).setCell (p:=⟨w.heap.size,2,none⟩) (Nat.le_refl _) _,.inr ⟨HLC.out 0 HCT.out,ov,rfl,fun hc=>?_,ho2⟩⟩;have hrow:=ho1 hc;have n2:=row_off hrow hR2 (by decide);exact ownsRow_base (ownsRow_setCell_other (ownsRow_setCell_other (ownsRow_setCell_other hrow n2 _) n2 _) n2 _) (by omega))
    obtain⟨va,vl,vc,rfl⟩:=hov;generalize ((searchM ⟨o,ops,beforeB,bn,nameB⟩).code:Int)=xc at HX ⊢;generalize ((searchM ⟨o,ops,beforeB,bn,nameB⟩).ent.length:Int)=xe at HX ⊢;clear ho1 ho2 hbb hb2 hR2 t0 t1 t2 t3;go_wp2;exact bodyPost_ret (v:=.tuple #[.agg #[.int .i64 xc,.slice va vl vc,.int .i64 xe],.nilIface]) (by simp[results,Tryz.results118,go_sem,s0,s1,s2]) rfl HX.out
   ·have HX:Hid (JTold o bn ops w (.returned (.tuple #[.agg #[.int .i64 0,.slice none 0 0,.int .i64 0],toldV n])) (((w1.setCell ⟨w.heap.size,0,none⟩ (.int .i64 0)).setCell ⟨w.heap.size,1,none⟩ (.slice none 0 0)).setCell ⟨w.heap.size,2,none⟩ (.int .i64 0))):=
     hideIt ⟨((HBW.out.setCell (p:=⟨w.heap.size,0,none⟩) (Nat.le_refl _) _).setCell (p:=⟨w.heap.size,1,none⟩) (Nat.le_refl _) _).setCell (p:=⟨w.heap.size,2,none⟩) (Nat.le_refl _) _,.inl ⟨n,hz,HLC.out n HCT.out,rfl⟩⟩
    rw[toldV_some hz] at HX ⊢;go_wp2;exact bodyPost_ret (v:=.tuple #[.agg #[.int .i64 0,.slice none 0 0,.int .i64 0],.iface 55 (.int .i64 n)]) (by simp[results,Tryz.results118,go_sem,t0,t1,t2]) rfl HX.out
open Go.RowKit
theorem search_code (c:Sr):(searchM c).code=1∨(searchM c).code=2∨(searchM c).code=3:=visit_code _ _ _ _
theorem search_valid {c:Sr} (h:(searchM c).code=1):∃S,Reach c (searchM c).ord S∧overB c.ops (searchM c).ord=true:=visit_valid _ _ _ _ Reach.start h
open Go.RowKit
theorem JTold.wider {o bud:Int} {ops:List Opn} {w W:World} {e:Ending} {w':World} (h:JTold o bud ops W e w') (hb:Below w.heap.size w W):JTold o bud ops w e w':=by
 obtain⟨h1,h2⟩:=h;refine⟨belJ hb h1,?_⟩;rcases h2 with h2 | ⟨hl,ov,he,ho1,ho2⟩
 ·exact .inl h2
 ·exact .inr ⟨hl,ov,he,fun hc=>ownsRow_base (ho1 hc) hb.size,ho2⟩
set_option maxHeartbeats 2000000 in
theorem check_any (o bud:Int) (ops:List Opn) (u:Value) (w:World) (hlen:ops.length≤60) (hl:OpsIn w u ops) (hK:KnownAt w):
  Calls Tryz.prog 58 #[.int .i64 o,u,.int .i64 bud] w fun e w'=>JTold o bud ops w e w':=by
 have hpos:0 < w.heap.size:=World.block_lt_of_cell? w ⟨0,0*13+0,none⟩ (hK 0 0 (by decide) (by decide));have hb1:Below w.heap.size w (w.alloc (.cells #[.int .i64 0,.slice none 0 0,.int .i64 0] 34)):=belA (Below.refl _ _) _;have HC:=hideIt (judge_any o bud ops u _ hlen (hl.below hb1) (hK.below hpos hb1));have HB1:=hideIt hb1;clear hl hK hb1;go_enter Tryz.func58,Tryz.ntmps58
 go_wp2_with fail
 refine HC.out.mono ?_;intro e w2 hj;have hb2:=hj.1;have hR2:w2.heap[w.heap.size]?=some z33:=(hb2.block w.heap.size (by simp)).trans (heap_alloc_new w _);have s0:w2.cell? ⟨w.heap.size,0,none⟩=some (.int .i64 0):=cell_of_row w2 _ _ _ 34 (0,0) hR2;have s1:w2.cell? ⟨w.heap.size,1,none⟩=some (.slice none 0 0):=cell_of_row w2 _ _ _ 34 (0,0) hR2;have s2:w2.cell? ⟨w.heap.size,2,none⟩=some (.int .i64 0):=cell_of_row w2 _ _ _ 34 (0,0) hR2;have s3:∀i,w2.frozen? ⟨w.heap.size,i,none⟩=false:=fun i=>frozen_of_row w2 _ _ _ 34 hR2
 have hj':=hj.wider HB1.out;have hset:∀x y z,Below w.heap.size w (((w2.setCell ⟨w.heap.size,0,none⟩ x).setCell ⟨w.heap.size,1,none⟩ y).setCell ⟨w.heap.size,2,none⟩ z):=fun x y z=>
  ((hj'.1.setCell (p:=⟨w.heap.size,0,none⟩) (Nat.le_refl _) _).setCell (p:=⟨w.heap.size,1,none⟩) (Nat.le_refl _) _).setCell (p:=⟨w.heap.size,2,none⟩) (Nat.le_refl _) _
 obtain⟨_,⟨n,hn,hlc,rfl⟩ | ⟨hlc,ov,rfl,ho1,ho2⟩⟩:=hj'
 ·have HX:Hid (JTold o bud ops w (.returned (.tuple #[.agg #[.int .i64 0,.slice none 0 0,.int .i64 0],toldV n])) (((w2.setCell ⟨w.heap.size,0,none⟩ (.int .i64 0)).setCell ⟨w.heap.size,1,none⟩ (.slice none 0 0)).setCell ⟨w.heap.size,2,none⟩ (.int .i64 0))):=hideIt ⟨hset _ _ _,.inl ⟨n,hn,hlc,rfl⟩⟩;rw[toldV_some hn] at HX ⊢;clear hj hb2 hset hR2;go_wp2;exact bodyPost_ret (v:=.tuple #[.agg #[.int .i64 0,.slice none 0 0,.int .i64 0],.iface 55 (.int .i64 n)]) (by simp[results,Tryz.results58,go_sem,s0,s1,s2]) rfl HX.out
 ·have hov:∃a l c,ov=.slice a l c:=by
   by_cases h1:(searchM (srB o ops bud.toNat)).code=1
   ·obtain⟨a,c,e⟩:=ownsRow_slice (ho1 h1);exact⟨a,_,c,e⟩
   ·exact⟨_,_,_,ho2 h1⟩
  have HX:Hid (JTold o bud ops w (.returned (.tuple #[.agg #[.int .i64 ((searchM (srB o ops bud.toNat)).code:Int),ov,.int .i64 ((searchM (srB o ops bud.toNat)).ent.length:Int)],.nilIface])) (((w2.setCell ⟨w.heap.size,0,none⟩ (.int .i64 ((searchM (srB o ops bud.toNat)).code:Int))).setCell ⟨w.heap.size,1,none⟩ ov).setCell ⟨w.heap.size,2,none⟩ (.int .i64 ((searchM (srB o ops bud.toNat)).ent.length:Int)))):=hideIt (by
   refine⟨hset _ _ _,.inr ⟨hlc,ov,rfl,fun hc=>?_,ho2⟩⟩;have hrow:=ho1 hc;have n2:=row_off hrow hR2 (by decide);exact ownsRow_setCell_other (ownsRow_setCell_other (ownsRow_setCell_other hrow n2 _) n2 _) n2 _)
  obtain⟨va,vl,vc,rfl⟩:=hov;generalize ((searchM (srB o ops bud.toNat)).code:Int)=xc at HX ⊢;generalize ((searchM (srB o ops bud.toNat)).ent.length:Int)=xe at HX ⊢;clear hj hb2 hset hR2 ho1 ho2;go_wp2;exact bodyPost_ret (v:=.tuple #[.agg #[.int .i64 xc,.slice va vl vc,.int .i64 xe],.nilIface]) (by simp[results,Tryz.results58,go_sem,s0,s1,s2]) rfl HX.out
end Go.Proofs.YtjpklmighoondaaGreatDoor
namespace Go.Proofs.YtjpklmighoondaaGreatDoor.St
open Go.RowKit
theorem lt_of_heap {w:World} {g:Nat} {o:Obj} (h:w.heap[g]?=some o):g < w.heap.size:=by
 rcases Nat.lt_or_ge g w.heap.size with hlt | hge
 ·exact hlt
 ·rw[Array.getElem?_eq_none hge] at h;cases h
theorem heap_setCell {w:World} {g:Nat} {cur:Array Value} {t:TypeId} {fr:Nat×Nat} (h:w.heap[g]?=some (.cells cur t fr)) (o:Nat) (u:Value):∃cur',(w.setCell ⟨g,o,none⟩ u).heap[g]?=some (.cells cur' t fr)∧cur'.size=cur.size:=by
 refine⟨cur.setIfInBounds o u,?_,by simp⟩;simp[World.setCell,Array.getElem?_modify,h]
theorem info3:(Tryz.prog.info? 3).map (fun i=>(i.zero,i.size,i.bytes))=some (some (Value.int .i64 0),1,8):=by kernel_rfl
theorem made_one (v:Value) (n i:Nat) (h:i < n):(madeCells #[v] n)[i]?=some v:=by simp[madeCells,h,Nat.mod_one]
theorem cell_made (w:World) (v:Value) (n t i:Nat) (h:i < n):(w.alloc (.cells (madeCells #[v] n) t)).cell? ⟨w.heap.size,i,none⟩=some v:=by
 rw[cell_of_row _ w.heap.size i _ t _ (heap_alloc_new w _)];exact made_one v n i h
theorem offNe {g a b:Nat} (h:a≠b):(⟨g,a,none⟩:Addr)≠⟨g,b,none⟩:=fun e=>h (by injection e)
theorem blkNe {g g' a b:Nat} (h:g≠g'):(⟨g,a,none⟩:Addr)≠⟨g',b,none⟩:=fun e=>h (by injection e)
theorem ownsRow_slice {w:World} {base:Nat} {e:TypeId} {size:Nat} {v:Value} {n:Nat} {xs:List Value} (h:w.ownsRow base e size v n xs):∃a c,v=.slice a n c:=by
 obtain⟨_,⟨rfl,rfl⟩ | ⟨g,cap,cur,rfl,_⟩⟩:=h
 ·exact⟨_,_,rfl⟩
 ·exact⟨_,_,rfl⟩
theorem ownsRow_same {w w':World} {base:Nat} {e:TypeId} {size:Nat} {v:Value} {n:Nat} {xs:List Value} (h:w.ownsRow base e size v n xs) (hs:∀b,v.ownBlock=some b→w'.heap[b]?=w.heap[b]?):w'.ownsRow base e size v n xs:=by
 obtain⟨hl,h | ⟨g,cap,cur,rfl,hb,hh,h1⟩⟩:=h
 ·exact⟨hl,.inl h⟩
 ·exact⟨hl,.inr ⟨g,cap,cur,rfl,hb,(hs g rfl).trans hh,h1⟩⟩
theorem ownsRow_block {w:World} {base:Nat} {e:TypeId} {size:Nat} {v:Value} {n:Nat} {xs:List Value} (h:w.ownsRow base e size v n xs):∀b,v.ownBlock=some b→base≤b∧b < w.heap.size∧∃cur,w.heap[b]?=some (.cells cur e (0,0)):=by
 intro b hb;have hl:=h.lt b hb;obtain⟨_,⟨rfl,_⟩ | ⟨g,cap,cur,rfl,_,hh,_⟩⟩:=h
 ·cases hb
 ·obtain rfl:g=b:=by simpa [Value.ownBlock] using hb
  exact⟨hl.1,hl.2,cur,hh⟩
theorem wpList_append_run {P:Program} (w:World) {ops:Array Oper} {rest:List Oper} {o:Oper} {a:Act} {Q:Exit→Act→World→Prop} (hgd:o.guard=none) (s x:Operand) (t:TypeId)
  (ho:o.op=.call {callee:=.builtin .append,args:=#[s,x],argTypes:=#[t,t]}) (v xv v':Value) (w':World) (hs:a.eval s=v) (hx:a.eval x=xv) (hr:(Builtin.append_ #[t,t] o.type #[v,xv]).run P w=.ok v' w')
  (hK:wpList P ops Q rest (a.put o.dst v') w'):wpList P ops Q (o::rest) a w:=by
 refine wpList_plain hgd fun K' hK'=>?_
 unfold Oper.wp execOp;simp only[ho,resolve,invoke,builtin,Sem.run_bind,Sem.run_pure,Result.andThen_ok,List.map_toArray,List.map_cons,List.map_nil,hs,hx,hr];exact hK' _ _ hK
theorem step_append_run {P:Program} {ops:Array Oper} {o:Oper} {a:Act} {w:World} {K:Act→World→Prop} {Q:Exit→Act→World→Prop} {E:Prop} (hgd:o.guard=none) (s x:Operand) (t:TypeId)
  (ho:o.op=.call {callee:=.builtin .append,args:=#[s,x],argTypes:=#[t,t]}) (v xv v':Value) (w':World) (hs:a.eval s=v) (hx:a.eval x=xv) (hr:(Builtin.append_ #[t,t] o.type #[v,xv]).run P w=.ok v' w')
  (hK:K (a.put o.dst v') w'):if Region.wanted o (yielded ops a.tmps)=true then Oper.wp P o a w K Q else E:=by
 have hw:Region.wanted o (yielded ops a.tmps)=true:=by simp[Region.wanted,hgd]
 rw[if_pos hw];unfold Oper.wp execOp;simp only[ho,resolve,invoke,builtin,Sem.run_bind,Sem.run_pure,Result.andThen_ok,List.map_toArray,List.map_cons,List.map_nil,hs,hx,hr];exact hK
def tagD:Option Obj→Nat
 | some (.cells _ t _)=>t+1
 | _=>0
theorem ne_tagD {W:World} {a b x y:Nat} (ha:tagD W.heap[a]?=x) (hb:tagD W.heap[b]?=y) (h:x≠y):a≠b:=fun e=>h (by rw[←ha,←hb,e])
theorem own_tagD {W:World} {base:Nat} {e:TypeId} {m:Nat} {v:Value} {l:Nat} {xs:List Value} (h:W.ownsRow base e m v l xs) {b:Nat} (hb:v.ownBlock=some b):tagD W.heap[b]?=e+1:=by
 obtain⟨_,_,cur,hc⟩:=ownsRow_block h b hb;rw[hc];rfl
theorem flat_at {α:Type} {c:α→List Value} {m:Nat} (hc:∀x,(c x).length=m):∀(l:List α) (k j:Nat) (hk:k < l.length),j < m→(l.flatMap c)[k*m+j]?=(c l[k])[j]?
 | [],k,_,hk,_=>absurd hk (by simp)
 | x::l,0,j,_,hj=>by
  rw[List.flatMap_cons,List.getElem?_append_left (by rw[hc];omega),Nat.zero_mul,Nat.zero_add];rfl
 | x::l,k+1,j,hk,hj=>by
  rw[List.flatMap_cons,List.getElem?_append_right (by rw[hc,Nat.add_mul];omega),hc,show (k+1)*m+j - m=k*m+j by rw[Nat.add_mul];omega];exact flat_at hc l k j (by simpa using hk) hj
theorem own_cells {w:World} {base:Nat} {e:TypeId} {m:Nat} {v:Value} {n:Nat} {xs:List Value} (h:w.ownsRow base e m v n xs):(v=.slice none 0 0∧n=0)∨∃g cap,v=.slice (some ⟨g,0,none⟩) n cap∧n≤cap∧g < w.heap.size∧∀k,k < n*m→w.cell? ⟨g,k,none⟩=xs[k]?:=by
 obtain⟨hl,⟨rfl,h0⟩ | ⟨g,cap,cur,rfl,hb,hh,h1,h2,h3,h4⟩⟩:=h
 ·exact .inl ⟨rfl,h0⟩
 ·refine .inr ⟨g,cap,rfl,h1,lt_of_heap hh,fun k hk=>?_⟩;rw[cell_of_row _ _ _ _ e _ hh];have e':(cur.toList.take (n*m))[k]?=xs[k]?:=by rw[h4]
  rw[List.getElem?_take_of_lt hk,Array.getElem?_toList] at e';exact e'
end Go.Proofs.YtjpklmighoondaaGreatDoor.St
