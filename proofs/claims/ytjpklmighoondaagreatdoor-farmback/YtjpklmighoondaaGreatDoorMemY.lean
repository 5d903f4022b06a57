/-
  A map from numbers to ops in memory, and the struct of a history.
  What begin of a history does.
  What end of a history does: laws on memory first.
  What end of a history does.
  What end of a history does with what a process is at.
-/
import Derived.Test.YtjpklmighoondaaGreatDoorPlainHY
import Derived.Test.YtjpklmighoondaaGreatDoorFieldsQY
import Derived.Maps.OwnSet
import Derived.Test.YtjpklmighoondaaGreatDoorPlainRY
import Derived.Deep.QuietTactic
import Derived.BigQuiet
import Derived.RegionTactic
import Derived.Deep.RegionHeld3
import Derived.Deep.DeepCutAuto
import Derived.Laws.AppendOwn
namespace Go.Proofs.YtjpklmighoondaaGreatDoor
open Go.RowKit
open Go.Maps (Keyed int_keyed IsMap)
def zeroOp:Opn:=⟨0,0,0,0,0,0,0,0⟩
def opD (x:Opn):DataW Unit:=.agg [.lit (.int .i64 x.p),.lit (.int .i64 x.k),.lit (.int .i64 x.d),.lit (.int .i64 x.a),.lit (.int .i64 x.b),.lit (.int .i64 x.r),.lit (.int .i64 x.c),.lit (.int .i64 x.e)]
def opElem:Value→Option (DataW Unit×List MemPlace)
 | .agg ⟨[.int .i64 p,.int .i64 k,.int .i64 d,.int .i64 a,.int .i64 b,.int .i64 r,.int .i64 c,.int .i64 e]⟩=>some (opD ⟨p,k,d,a,b,r,c,e⟩,[])
 | _=>none
theorem opElem_mk (x:Opn):opElem x.agg=some (opD x,[]):=rfl
theorem opElem_inv {v:Value} {z:DataW Unit×List MemPlace} (h:opElem v=some z):∃x:Opn,v=x.agg∧z=(opD x,[]):=by
 unfold opElem at h
 split at h
 ·exact⟨⟨_,_,_,_,_,_,_,_⟩,rfl,(Option.some.inj h).symm⟩
 ·cases h
theorem opD_inj {x y:Opn} (h:opD x=opD y):x=y:=by
 cases x;cases y
 simpa [opD] using h
theorem keyedIEv:Keyed Tryz.prog 3:=int_keyed Tryz.underlying3
theorem zeroEEv (w:World):(zeroValue 157).run Tryz.prog w=.ok zeroOp.agg w:=by kernel_rfl
theorem keyIEv (p:Int) (h0:0≤p) (h8:p < 8):keyOf Tryz.prog 3 (.int .i64 p)=some (.int .i64 p):=Go.Maps.keyOf_int_mk Tryz.underlying3 (WalkArith.wf_i64 (by omega))
def MapIs (w:World) (M n:Nat) (busy:Int→Option Opn):Prop:=
 ∃D:DataW Unit,w.ownsMap Tryz.prog 3 opElem M n D∧∀q:Int,Maps.has D (.int .i64 q)=(busy q).isSome∧∀o,busy q=some o→∀z,D.atKey (.int .i64 q) z=opD o
theorem MapIs.drew {w:World} {M n:Nat} {busy:Int→Option Opn} (h:MapIs w M n busy):MapIs w.drew M n busy:=h
theorem MapIs.alloc {w:World} {M n:Nat} {busy:Int→Option Opn} (h:MapIs w M n busy) (o:Obj):MapIs (w.alloc o) M n busy:=by
 obtain⟨D,h1,h2⟩:=h;exact⟨D,h1.alloc o,h2⟩
theorem MapIs.setCell {w:World} {M n:Nat} {busy:Int→Option Opn} (h:MapIs w M n busy) {a:Addr} (ha:M≠a.block) (u:Value):MapIs (w.setCell a u) M n busy:=by
 obtain⟨D,h1,h2⟩:=h;exact⟨D,h1.setCell ha u,h2⟩
theorem MapIs.kept {w w':World} {M n:Nat} {busy:Int→Option Opn} {row:Option Nat} (h:MapIs w M n busy) (hg:w.grownBy w' row) (hne:some M≠row):MapIs w' M n busy:=by
 obtain⟨D,h1,h2⟩:=h;exact⟨D,h1.kept hg hne,h2⟩
theorem mapIs_made (w:World):MapIs (w.alloc (.map #[] 0)) w.heap.size 0 (fun _=>none):=
 ⟨_,World.ownsMap_made w Tryz.prog 3 opElem,fun _=>⟨rfl,fun o h=>by cases h⟩⟩
theorem MapIs.look {w:World} {M n:Nat} {busy:Int→Option Opn} (h:MapIs w M n busy) (p:Int) (h0:0≤p) (h8:p < 8):
  ∃x:Opn,(Instr.lookup 80 (.map (some M)) (.int .i64 p) true).run Tryz.prog w=.ok (.tuple #[x.agg,.bool (busy p).isSome]) w∧∀o,busy p=some o→x=o:=by
 obtain⟨D,h1,h2⟩:=h;obtain⟨v,ps,hrun,hv⟩:=h1.look_ok keyedIEv Tryz.underlying80 (zeroEEv w) (opElem_mk zeroOp) (keyIEv p h0 h8);obtain⟨x,rfl,hx⟩:=opElem_inv hv;refine⟨x,by rw[←(h2 p).1];exact hrun,fun o ho=>?_⟩;simp only[Prod.mk.injEq] at hx;rw[(h2 p).2 o ho] at hx;exact(opD_inj hx.1).symm
theorem isKeyIEv (p:Int) (_h0:0≤p) (_h8:p < 8):WideAt.IsKeyLit (.int .i64 p):=by
 simp[WideAt.IsKeyLit]
theorem MapIs.store {w:World} {M n:Nat} {busy:Int→Option Opn} (h:MapIs w M n busy) (hn:n < 1000) (p:Int) (h0:0≤p) (h8:p < 8) (x:Opn):
  ∃w',(Instr.mapUpdate 80 (.map (some M)) (.int .i64 p) x.agg).run Tryz.prog w=.ok () w'∧MapIs w' M (n+1) (setO busy p (some x))∧w.mapTurned w' M:=by
 obtain⟨D,h1,h2⟩:=h;obtain⟨w',hrun,ho,ht⟩:=h1.store keyedIEv Tryz.underlying80 (by unfold maxLen;omega) (keyIEv p h0 h8) (opElem_mk x);refine⟨w',hrun,⟨_,ho,fun q=>?_⟩,ht⟩;by_cases e:q=p
 ·subst e;rw[setO_same,Maps.has_put_same h1.isMap (isKeyIEv q h0 h8)];exact⟨rfl,fun o ho z=>by obtain rfl:=Option.some.inj ho;exact Maps.atKey_put_same h1.isMap (isKeyIEv q h0 h8) _ z⟩
 ·have hne:(Lit.int .i64 q)≠.int .i64 p:=fun k=>e (by simpa using k)
  rw[setO_other _ _ _ _ e,Maps.has_put_other hne];exact⟨(h2 q).1,fun o ho z=>by rw[Maps.atKey_put_other hne];exact(h2 q).2 o ho z⟩
theorem MapIs.drop {w:World} {M n:Nat} {busy:Int→Option Opn} (h:MapIs w M n busy) (p:Int) (h0:0≤p) (h8:p < 8) (ty:TypeId):
  ∃w',(Builtin.delete_ #[80,3] ty #[.map (some M),.int .i64 p]).run Tryz.prog w=.ok (.tuple #[]) w'∧MapIs w' M n (setO busy p none)∧w.mapTurned w' M:=by
 obtain⟨D,h1,h2⟩:=h;obtain⟨w',hrun,ho,ht⟩:=h1.drop keyedIEv Tryz.underlying80 (keyIEv p h0 h8) ty;refine⟨w',hrun,⟨_,ho,fun q=>?_⟩,ht⟩;by_cases e:q=p
 ·subst e;rw[setO_same,Maps.has_del_same];exact⟨rfl,fun o ho=>by cases ho⟩
 ·have hne:(Lit.int .i64 q)≠.int .i64 p:=fun k=>e (by simpa using k)
  rw[setO_other _ _ _ _ e,Maps.has_del_other hne];exact⟨(h2 q).1,fun o ho z=>by rw[Maps.atKey_del_other hne];exact(h2 q).2 o ho z⟩
open Go.RowKit
def Opn.list (x:Opn):List Value:= [.int .i64 x.p,.int .i64 x.k,.int .i64 x.d,.int .i64 x.a,.int .i64 x.b,.int .i64 x.r,.int .i64 x.c,.int .i64 x.e]
def opCells (l:List Opn):List Value:=l.flatMap Opn.list
def Ev.agg (e:Ev):Value:=.agg #[.int .i64 e.p,.int .i64 e.t,.int .i64 e.k,.int .i64 e.d,.int .i64 e.a,.int .i64 e.b,.int .i64 e.r]
def Ev.obj (e:Ev):Obj:=.cells #[.int .i64 e.p,.int .i64 e.t,.int .i64 e.k,.int .i64 e.d,.int .i64 e.a,.int .i64 e.b,.int .i64 e.r] 54
def zeroObj:Obj:=.cells #[.int .i64 0,.int .i64 0,.int .i64 0,.int .i64 0,.int .i64 0,.int .i64 0,.int .i64 0,.int .i64 0] 157
structure HistAt (w : World) (B M base cnt : Nat) (s : Hs) : Prop where
 mapc:w.cell? ⟨B,0,none⟩=some (.map (some M))
 lost:∀p:Int,0≤p→p < 8→w.cell? ⟨B,1+p.toNat,none⟩=some (.bool (s.lost p))∧w.frozen? ⟨B,1+p.toNat,none⟩=false
 row:∃v,w.cell? ⟨B,9,none⟩=some v∧w.frozen? ⟨B,9,none⟩=false∧w.ownsRow base 157 8 v s.done.length (opCells s.done)
 map:MapIs w M cnt s.busy
 lt1:M < B
 lt2:B < base
 lt3:base≤w.heap.size
theorem HistAt.drew {w:World} {B M base cnt:Nat} {s:Hs} (h:HistAt w B M base cnt s):HistAt w.drew B M base cnt s:=⟨h.mapc,h.lost,h.row,h.map,h.lt1,h.lt2,h.lt3⟩
theorem HistAt.drewN {w:World} {B M base cnt:Nat} {s:Hs} (h:HistAt w B M base cnt s) (n:Nat):HistAt (w.drewN n) B M base cnt s:=⟨h.mapc,h.lost,h.row,h.map,h.lt1,h.lt2,h.lt3⟩
theorem HistAt.alloc {w:World} {B M base cnt:Nat} {s:Hs} (h:HistAt w B M base cnt s) (o:Obj):HistAt (w.alloc o) B M base cnt s:=by
 have hB:B < w.heap.size:=Nat.lt_of_lt_of_le h.lt2 h.lt3;obtain⟨v,h1,h2,h3⟩:=h.row;refine⟨?_,fun p p0 p8=>?_,⟨v,?_,?_,h3.alloc o⟩,h.map.alloc o,h.lt1,h.lt2,by simp;have:=h.lt3;omega⟩
 ·rw[World.cell?_alloc_lt _ _ _ hB];exact h.mapc
 ·rw[World.cell?_alloc_lt _ _ _ hB,World.frozen?_alloc_old _ _ _ (Nat.ne_of_lt hB)];exact h.lost p p0 p8
 ·rw[World.cell?_alloc_lt _ _ _ hB];exact h1
 ·rw[World.frozen?_alloc_old _ _ _ (Nat.ne_of_lt hB)];exact h2
set_option maxHeartbeats 1000000 in
theorem begin_busy (e:Ev) (n:Int) (w:World) (B M base cnt:Nat) (s:Hs) (o:Opn) (H:HistAt w B M base cnt s) (h0:0≤e.p) (h8:e.p < 8) (hb:s.busy e.p=some o):
  Calls Tryz.prog 73 #[.pointer (some ⟨B,0,none⟩),.int .i64 n,e.agg] w fun ev w'=>ev=.returned (.int .i64 6)∧HistAt w' B M base cnt s∧Below M w w':=by
 have hB:B < w.heap.size:=Nat.lt_of_lt_of_le H.lt2 H.lt3;have hM:M < w.heap.size:=Nat.lt_trans H.lt1 hB;have hc:=H.mapc;obtain⟨x,hr1,hx1⟩:=(H.map.alloc e.obj).drew.look e.p h0 h8;obtain rfl:=hx1 o hb;obtain⟨y,hr2,hx2⟩:=((H.map.alloc e.obj).alloc zeroObj).drew.look e.p h0 h8;obtain rfl:=hx2 x hb;rw[hb] at hr1 hr2;simp only[Option.isSome_some] at hr1 hr2;clear hx1 hx2 hb;unfold Opn.agg Ev.obj at hr1;unfold Opn.agg Ev.obj zeroObj at hr2;have HH:=H;clear H;unfold Ev.agg;go_enter Tryz.func73,Tryz.ntmps73
 go_wp2_with fail
 go_region
 all_goals
  go_wp2_with fail
  go_quiet (fail)
  go_wp2;go_ret;refine⟨rfl,?_,?_⟩
  ·repeat (first | exact HH | refine HistAt.drewN ?_ _ | refine HistAt.drew ?_ | refine HistAt.alloc ?_ _)
  ·refine Below.mono (B:=w.heap.size) ?_ (Nat.le_of_lt hM);repeat (first | exact Below.refl _ _ | refine below_drewN ?_ _ | refine Below.drew ?_ | refine belA ?_ _)
set_option maxHeartbeats 1000000 in
theorem begin_lost (e:Ev) (n:Int) (w:World) (B M base cnt:Nat) (s:Hs) (H:HistAt w B M base cnt s) (h0:0≤e.p) (h8:e.p < 8) (hb:s.busy e.p=none) (hl:s.lost e.p=true):
  Calls Tryz.prog 73 #[.pointer (some ⟨B,0,none⟩),.int .i64 n,e.agg] w fun ev w'=>ev=.returned (.int .i64 6)∧HistAt w' B M base cnt s∧Below M w w':=by
 have hB:B < w.heap.size:=Nat.lt_of_lt_of_le H.lt2 H.lt3;have hM:M < w.heap.size:=Nat.lt_trans H.lt1 hB;have hc:=H.mapc;have hlc:=(H.lost e.p h0 h8).1;rw[hl] at hlc;obtain⟨x,hr1,hx1⟩:=(H.map.alloc e.obj).drew.look e.p h0 h8;obtain⟨y,hr2,hx2⟩:=((H.map.alloc e.obj).alloc zeroObj).drew.look e.p h0 h8;rw[hb] at hr1 hr2;simp only[Option.isSome_none] at hr1 hr2;clear hx1 hx2 hb hl;unfold Opn.agg Ev.obj at hr1;unfold Opn.agg Ev.obj zeroObj at hr2;have HH:=H;clear H;unfold Ev.agg;go_enter Tryz.func73,Tryz.ntmps73
 go_wp2_with fail
 go_region
 all_goals
  go_wp2_with fail
  go_quiet (fail)
  go_wp2;go_ret;refine⟨rfl,?_,?_⟩
  ·repeat (first | exact HH | refine HistAt.drewN ?_ _ | refine HistAt.drew ?_ | refine HistAt.alloc ?_ _)
  ·refine Below.mono (B:=w.heap.size) ?_ (Nat.le_of_lt hM);repeat (first | exact Below.refl _ _ | refine below_drewN ?_ _ | refine Below.drew ?_ | refine belA ?_ _)
def EvIn (w:World) (b:Nat) (e:Ev):Prop:=
 w.cell? ⟨b,0,none⟩=some (.int .i64 e.p)∧w.cell? ⟨b,1,none⟩=some (.int .i64 e.t)∧w.cell? ⟨b,2,none⟩=some (.int .i64 e.k)∧w.cell? ⟨b,3,none⟩=some (.int .i64 e.d)∧w.cell? ⟨b,4,none⟩=some (.int .i64 e.a)∧w.cell? ⟨b,5,none⟩=some (.int .i64 e.b)∧w.cell? ⟨b,6,none⟩=some (.int .i64 e.r)
theorem evIn_new (w:World) (e:Ev) (o:Obj):EvIn ((w.alloc (.cells #[.int .i64 e.p,.int .i64 e.t,.int .i64 e.k,.int .i64 e.d,.int .i64 e.a,.int .i64 e.b,.int .i64 e.r] 54)).alloc o) w.heap.size e:=by
 have h:∀j,((w.alloc (.cells #[.int .i64 e.p,.int .i64 e.t,.int .i64 e.k,.int .i64 e.d,.int .i64 e.a,.int .i64 e.b,.int .i64 e.r] 54)).alloc o).cell? ⟨w.heap.size,j,none⟩=(w.alloc (.cells #[.int .i64 e.p,.int .i64 e.t,.int .i64 e.k,.int .i64 e.d,.int .i64 e.a,.int .i64 e.b,.int .i64 e.r] 54)).cell? ⟨w.heap.size,j,none⟩:=fun j=>World.cell?_alloc_lt _ _ _ (by simp)
 refine⟨?_,?_,?_,?_,?_,?_,?_⟩<;>rw[h]<;>simp
theorem HistAt.turned {w w':World} {B M base cnt cnt':Nat} {s:Hs} {busy:Int→Option Opn} (h:HistAt w B M base cnt s) (ht:w.mapTurned w' M) (hm:MapIs w' M cnt' busy):HistAt w' B M base cnt' ⟨busy,s.lost,s.done⟩:=by
 have hg:=ht.grown;have hB:B < w.heap.size:=Nat.lt_of_lt_of_le h.lt2 h.lt3;have hne:some B≠some M:=fun k=>by have:=h.lt1;have:=Option.some.inj k;omega
 have hblk:=hg.block B hB hne;have hc:∀j,w'.cell? ⟨B,j,none⟩=w.cell? ⟨B,j,none⟩:=fun j=>World.cell?_of_block (a:=⟨B,j,none⟩) hblk
 have hf:∀j,w'.frozen? ⟨B,j,none⟩=w.frozen? ⟨B,j,none⟩:=fun j=>World.frozen?_of_block (a:=⟨B,j,none⟩) hblk
 obtain⟨v,h1,h2,h3⟩:=h.row;refine⟨by rw[hc];exact h.mapc,fun p p0 p8=>by rw[hc,hf];exact h.lost p p0 p8,⟨v,by rw[hc];exact h1,by rw[hf];exact h2,h3.kept hg ?_⟩,hm,h.lt1,h.lt2,Nat.le_trans h.lt3 hg.size⟩;by_cases e:v.ownBlock=none
 ·exact .inl e
 ·right
  intro k;have:=(h3.lt M k).1;have:=h.lt1;have:=h.lt2;omega
theorem below_turned {w w':World} {M:Nat} (ht:w.mapTurned w' M) (hM:M≤w.heap.size):Below M w w':=(Below.refl M w).grown ht.grown hM (fun k hk=>by have:=Option.some.inj hk;omega)
set_option maxHeartbeats 1000000 in
theorem begin_new (e:Ev) (n:Int) (w:World) (B M base cnt:Nat) (s:Hs) (H:HistAt w B M base cnt s) (hcn:cnt < 1000) (h0:0≤e.p) (h8:e.p < 8) (hb:s.busy e.p=none) (hl:s.lost e.p=false):
  Calls Tryz.prog 73 #[.pointer (some ⟨B,0,none⟩),.int .i64 n,e.agg] w fun ev w'=>ev=.returned (.int .i64 0)∧HistAt w' B M base (cnt+1) ⟨setO s.busy e.p (some (e.op n)),s.lost,s.done⟩∧Below M w w':=by
 have hB:B < w.heap.size:=Nat.lt_of_lt_of_le H.lt2 H.lt3;have hM:M < w.heap.size:=Nat.lt_trans H.lt1 hB;have hc:=H.mapc;have hlc:=(H.lost e.p h0 h8).1;rw[hl] at hlc;obtain⟨x,hr1,hx1⟩:=(H.map.alloc e.obj).drew.look e.p h0 h8;obtain⟨y,hr2,hx2⟩:=((H.map.alloc e.obj).alloc zeroObj).drew.look e.p h0 h8;rw[hb] at hr1 hr2;simp only[Option.isSome_none] at hr1 hr2;clear hx1 hx2 hb hl;unfold Opn.agg Ev.obj at hr1;unfold Opn.agg Ev.obj zeroObj at hr2;have HH:=H;clear H;unfold Ev.agg;go_enter Tryz.func73,Tryz.ntmps73
 go_wp2_with fail
 go_region
 all_goals
  clear hr1 hr2;go_upto_region 2 with fail
  go_cut [28] (fun c wx=>c=.bool false∧HistAt wx B M base cnt s∧EvIn wx w.heap.size e∧Below M w wx)
  case first=>
   go_quiet (fail)
   go_wp2
   go_meet
   refine⟨rfl,?_,?_,?_⟩
   ·repeat (first | exact HH | refine HistAt.drewN ?_ _ | refine HistAt.drew ?_ | refine HistAt.alloc ?_ _)
   ·exact evIn_new w e _
   ·refine Below.mono (B:=w.heap.size) ?_ (Nat.le_of_lt hM);repeat (first | exact Below.refl _ _ | refine below_drewN ?_ _ | refine Below.drew ?_ | refine belA ?_ _)
  case rest=>
   obtain⟨rfl,HC,⟨e0,e1,e2,e3,e4,e5,e6⟩,hbel⟩:=hcut;clear hc hlc;have hc:=HC.mapc;obtain⟨w2,hr3,hm3,ht3⟩:=HC.map.drew.store hcn e.p h0 h8 (e.op n);have R1:=hideIt (HC.drew.turned ht3 hm3);have R2:=hideIt (hbel.drew.trans (below_turned ht3 (by have:=HC.lt1;have:=HC.lt2;have:=HC.lt3;simp;omega)));have hk:∀b j,b < wc.heap.size→b≠M→w2.cell? ⟨b,j,none⟩=wc.cell? ⟨b,j,none⟩:=fun b j h1 h2=>World.cell?_of_block (a:=⟨b,j,none⟩) (ht3.grown.block b h1 (fun k=>h2 (Option.some.inj k)))
   have hBc:B < wc.heap.size:=Nat.lt_of_lt_of_le HC.lt2 HC.lt3;have hBM:B≠M:=Nat.ne_of_gt HC.lt1;have hwc:w.heap.size < wc.heap.size:=World.block_lt_of_cell? wc ⟨w.heap.size,0,none⟩ e0;have hwM:w.heap.size≠M:=Nat.ne_of_gt hM;have k0:=(hk B 0 hBc hBM).trans hc;have k1:=(hk w.heap.size 0 hwc hwM).trans e0;have k2:=(hk w.heap.size 2 hwc hwM).trans e2;have k3:=(hk w.heap.size 3 hwc hwM).trans e3;have k4:=(hk w.heap.size 4 hwc hwM).trans e4;have k5:=(hk w.heap.size 5 hwc hwM).trans e5;clear hm3 ht3 hk;unfold Opn.agg Ev.op at hr3;have HC:=hideIt HC;clear hbel;go_upto_region 4 with fail
   go_region_held3 (fun w'=>w'.cell? ⟨B,0,none⟩=some (.map (some M))∧w'.cell? ⟨w.heap.size,0,none⟩=some (.int .i64 e.p)∧w'.cell? ⟨w.heap.size,2,none⟩=some (.int .i64 e.k)∧w'.cell? ⟨w.heap.size,3,none⟩=some (.int .i64 e.d)∧w'.cell? ⟨w.heap.size,4,none⟩=some (.int .i64 e.a)∧w'.cell? ⟨w.heap.size,5,none⟩=some (.int .i64 e.b)) (go_keep) (fail)
   go_wp2;go_ret;exact⟨rfl,R1.out,R2.out⟩
open Go.RowKit
theorem info31:(Tryz.prog.info? 157).map (fun i=>(i.zero,i.size,i.bytes))=some (some (.agg #[.int .i64 0,.int .i64 0,.int .i64 0,.int .i64 0,.int .i64 0,.int .i64 0,.int .i64 0,.int .i64 0]),8,64):=by kernel_rfl
theorem opCells_snoc (l:List Opn) (x:Opn):opCells (l++ [x])=opCells l++x.list:=by simp[opCells]
theorem hist_setRow {w w4:World} {B M base cnt:Nat} {s:Hs} {v':Value} {done:List Opn} (h:HistAt w B M base cnt s) (hc:∀j,w4.cell? ⟨B,j,none⟩=w.cell? ⟨B,j,none⟩) (hf:∀j,w4.frozen? ⟨B,j,none⟩=w.frozen? ⟨B,j,none⟩)
  (hm:MapIs w4 M cnt s.busy) (hsz:base≤w4.heap.size) (ho:w4.ownsRow base 157 8 v' done.length (opCells done)):HistAt (w4.setCell ⟨B,9,none⟩ v') B M base cnt ⟨s.busy,s.lost,done⟩:=by
 obtain⟨v,h1,h2,h3⟩:=h.row;have hcell9:w4.cell? ⟨B,9,none⟩=some v:=(hc 9).trans h1;have hother:∀j,j≠9→(w4.setCell ⟨B,9,none⟩ v').cell? ⟨B,j,none⟩=w4.cell? ⟨B,j,none⟩:=fun j hj=>World.cell?_setCell_other (h:=fun k=>hj (congrArg Addr.off k).symm) ..
 have hfz:∀a,(w4.setCell ⟨B,9,none⟩ v').frozen? a=w4.frozen? a:=fun a=>by simp
 refine⟨by rw[hother 0 (by decide),hc];exact h.mapc,fun p p0 p8=>?_,⟨v',?_,by rw[hfz,hf];exact h2,?_⟩,hm.setCell (Nat.ne_of_lt h.lt1) _,h.lt1,h.lt2,by simpa using hsz⟩
 ·rw[hother _ (by omega),hc,hfz,hf];exact h.lost p p0 p8
 ·exact World.cell?_setCell_same (h:=hcell9) ..
 ·exact ownsRow_setCell_below ho h.lt2 _
theorem hist_setLost {w:World} {B M base cnt:Nat} {s:Hs} (h:HistAt w B M base cnt s) (p:Int) (h0:0≤p) (h8:p < 8):HistAt (w.setCell ⟨B,1+p.toNat,none⟩ (.bool true)) B M base cnt ⟨s.busy,setB s.lost p true,s.done⟩:=by
 obtain⟨v,h1,h2,h3⟩:=h.row;have hother:∀j,j≠1+p.toNat→(w.setCell ⟨B,1+p.toNat,none⟩ (.bool true)).cell? ⟨B,j,none⟩=w.cell? ⟨B,j,none⟩:=fun j hj=>World.cell?_setCell_other (h:=fun k=>hj (congrArg Addr.off k).symm) ..
 have hfz:∀a,(w.setCell ⟨B,1+p.toNat,none⟩ (.bool true)).frozen? a=w.frozen? a:=fun a=>by simp
 refine⟨by rw[hother 0 (by omega)];exact h.mapc,fun q q0 q8=>?_,⟨v,by rw[hother 9 (by omega)];exact h1,by rw[hfz];exact h2,ownsRow_setCell_below h3 h.lt2 _⟩,h.map.setCell (Nat.ne_of_lt h.lt1) _,h.lt1,h.lt2,by simpa using h.lt3⟩;by_cases e:q=p
 ·subst e;refine⟨?_,by rw[hfz];exact(h.lost q q0 q8).2⟩;rw[World.cell?_setCell_same (h:=(h.lost q q0 q8).1) ..];simp[setB]
 ·rw[hother _ (by omega),hfz];have:=h.lost q q0 q8
  simpa [setB,e] using this
theorem below_setB {w W:World} {M B j:Nat} {u:Value} (h:Below M w W) (hB:M≤B):Below M w (W.setCell ⟨B,j,none⟩ u):=h.setCell hB u
theorem hist_append {w:World} {B M base cnt:Nat} {s:Hs} {v:Value} (h:HistAt w B M base cnt s) (hv:w.cell? ⟨B,9,none⟩=some v) (hn:s.done.length≤200) (x:Opn) (ty:TypeId):
  ∃g cap w4,(Builtin.append_ #[46,46] ty #[v,.slice (some ⟨w.heap.size,0,none⟩) 1 1]).run Tryz.prog (w.alloc (.cells #[.int .i64 x.p,.int .i64 x.k,.int .i64 x.d,.int .i64 x.a,.int .i64 x.b,.int .i64 x.r,.int .i64 x.c,.int .i64 x.e] 157)).drew=.ok (.slice (some ⟨g,0,none⟩) (s.done.length+1) cap) w4∧
   (∀b j,b≤w.heap.size→v.ownBlock≠some b→w4.cell? ⟨b,j,none⟩=(w.alloc (.cells #[.int .i64 x.p,.int .i64 x.k,.int .i64 x.d,.int .i64 x.a,.int .i64 x.b,.int .i64 x.r,.int .i64 x.c,.int .i64 x.e] 157)).cell? ⟨b,j,none⟩∧w4.frozen? ⟨b,j,none⟩=(w.alloc (.cells #[.int .i64 x.p,.int .i64 x.k,.int .i64 x.d,.int .i64 x.a,.int .i64 x.b,.int .i64 x.r,.int .i64 x.c,.int .i64 x.e] 157)).frozen? ⟨b,j,none⟩)∧
   HistAt (w4.setCell ⟨B,9,none⟩ (.slice (some ⟨g,0,none⟩) (s.done.length+1) cap)) B M base cnt ⟨s.busy,s.lost,s.done++ [x]⟩∧Below M w (w4.setCell ⟨B,9,none⟩ (.slice (some ⟨g,0,none⟩) (s.done.length+1) cap)):=by
 obtain⟨v0,h1,h2,h3⟩:=h.row;obtain rfl:=Option.some.inj (hv.symm.trans h1);obtain⟨i0,hi,hz0,hz1,hz2⟩:=info_parts info31;have hl3:=h.lt3;have hl2:=h.lt2;have hl1:=h.lt1;obtain⟨v',w4,hr,ho,hg,_⟩:=run_append_own (P:=Tryz.prog) (w.alloc (.cells #[.int .i64 x.p,.int .i64 x.k,.int .i64 x.d,.int .i64 x.a,.int .i64 x.b,.int .i64 x.r,.int .i64 x.c,.int .i64 x.e] 157)).drew base 46 ty 157 i0 _ 8 64 Tryz.underlying46 hi hz0 hz1 hz2 rfl (by decide) v s.done.length (opCells s.done) (h3.alloc _).drew ⟨w.heap.size,0,none⟩ 1 1 x.list rfl
  (by
   intro j u hj
   match j,hj with
   | 0,hj=>simp[Opn.list] at hj;subst hj;simp[Addr.add]
   | 1,hj=>simp[Opn.list] at hj;subst hj;simp[Addr.add]
   | 2,hj=>simp[Opn.list] at hj;subst hj;simp[Addr.add]
   | 3,hj=>simp[Opn.list] at hj;subst hj;simp[Addr.add]
   | 4,hj=>simp[Opn.list] at hj;subst hj;simp[Addr.add]
   | 5,hj=>simp[Opn.list] at hj;subst hj;simp[Addr.add]
   | 6,hj=>simp[Opn.list] at hj;subst hj;simp[Addr.add]
   | 7,hj=>simp[Opn.list] at hj;subst hj;simp[Addr.add]
   | n+8,hj=>simp[Opn.list] at hj)
  (by intro u hu;simp[Opn.list] at hu;rcases hu with rfl | rfl | rfl | rfl | rfl | rfl | rfl | rfl<;>rfl)
  (by unfold maxLen;omega) (by omega) (by simp;omega)
 obtain⟨g,cap,rfl⟩:∃g cap,v'=.slice (some ⟨g,0,none⟩) (s.done.length+1) cap:=by
  rcases ho.2 with ⟨_,h⟩ | ⟨g,cap,_,h,_⟩
  ·omega
  ·exact⟨g,cap,h⟩
 have hrow:∀k,v.ownBlock=some k→base≤k:=fun k hk=>(h3.lt k hk).1
 have hblk:∀b,b≤w.heap.size→v.ownBlock≠some b→w4.heap[b]?=(w.alloc (.cells #[.int .i64 x.p,.int .i64 x.k,.int .i64 x.d,.int .i64 x.a,.int .i64 x.b,.int .i64 x.r,.int .i64 x.c,.int .i64 x.e] 157)).heap[b]?:=fun b hb hne=>hg.block b (by simp;omega) (Ne.symm hne)
 have hcf:∀b j,b≤w.heap.size→v.ownBlock≠some b→w4.cell? ⟨b,j,none⟩=(w.alloc (.cells #[.int .i64 x.p,.int .i64 x.k,.int .i64 x.d,.int .i64 x.a,.int .i64 x.b,.int .i64 x.r,.int .i64 x.c,.int .i64 x.e] 157)).cell? ⟨b,j,none⟩∧w4.frozen? ⟨b,j,none⟩=(w.alloc (.cells #[.int .i64 x.p,.int .i64 x.k,.int .i64 x.d,.int .i64 x.a,.int .i64 x.b,.int .i64 x.r,.int .i64 x.c,.int .i64 x.e] 157)).frozen? ⟨b,j,none⟩:=fun b j hb hne=>
  ⟨World.cell?_of_block (a:=⟨b,j,none⟩) (hblk b hb hne),World.frozen?_of_block (a:=⟨b,j,none⟩) (hblk b hb hne)⟩
 have hBne:v.ownBlock≠some B:=fun k=>by have:=hrow B k;omega
 have hMne:some M≠v.ownBlock:=fun k=>by have:=hrow M k.symm;omega
 refine⟨g,cap,w4,hr,hcf,?_,?_⟩
 ·refine hist_setRow (s:=s) (h.alloc (.cells #[.int .i64 x.p,.int .i64 x.k,.int .i64 x.d,.int .i64 x.a,.int .i64 x.b,.int .i64 x.r,.int .i64 x.c,.int .i64 x.e] 157)) (fun j=>(hcf B j (by omega) hBne).1) (fun j=>(hcf B j (by omega) hBne).2) ((h.map.alloc _).drew.kept hg hMne) ?_ ?_
  ·have:=hg.size;simp at this;omega
  ·rw[opCells_snoc,List.length_append];exact ho
 ·refine below_setB ?_ (by omega);exact((Below.refl M w).alloc (by omega) _).drew.grown hg (by simp;omega) (fun k hk=>by have:=hrow k hk;omega)
open Go.RowKit
set_option maxHeartbeats 1000000 in
theorem end_none (e:Ev) (n:Int) (w:World) (B M base cnt:Nat) (s:Hs) (H:HistAt w B M base cnt s) (h0:0≤e.p) (h8:e.p < 8) (hb:s.busy e.p=none):
  Calls Tryz.prog 74 #[.pointer (some ⟨B,0,none⟩),.int .i64 n,e.agg] w fun ev w'=>ev=.returned (.int .i64 12)∧HistAt w' B M base cnt s∧Below M w w':=by
 have hB:B < w.heap.size:=Nat.lt_of_lt_of_le H.lt2 H.lt3;have hM:M < w.heap.size:=Nat.lt_trans H.lt1 hB;have hc:=H.mapc;obtain⟨x,hr1,hx1⟩:=(H.map.alloc e.obj).drew.look e.p h0 h8;obtain⟨y,hr2,hx2⟩:=((H.map.alloc e.obj).alloc zeroObj).drew.look e.p h0 h8;rw[hb] at hr1 hr2;simp only[Option.isSome_none] at hr1 hr2;clear hx1 hx2 hb;unfold Opn.agg Ev.obj at hr1;unfold Opn.agg Ev.obj zeroObj at hr2;have HH:=H;clear H;unfold Ev.agg;go_enter Tryz.func74,Tryz.ntmps74
 go_wp2_with fail
 go_region
 all_goals
  go_wp2;go_ret;refine⟨rfl,?_,?_⟩
  ·repeat (first | exact HH | refine HistAt.drewN ?_ _ | refine HistAt.drew ?_ | refine HistAt.alloc ?_ _)
  ·refine Below.mono (B:=w.heap.size) ?_ (Nat.le_of_lt hM);repeat (first | exact Below.refl _ _ | refine below_drewN ?_ _ | refine Below.drew ?_ | refine belA ?_ _)
set_option maxHeartbeats 1000000 in
theorem end_other (e:Ev) (n:Int) (w:World) (B M base cnt:Nat) (s:Hs) (o:Opn) (H:HistAt w B M base cnt s) (h0:0≤e.p) (h8:e.p < 8) (hb:s.busy e.p=some o) (hne:sameB o e=false):
  Calls Tryz.prog 74 #[.pointer (some ⟨B,0,none⟩),.int .i64 n,e.agg] w fun ev w'=>ev=.returned (.int .i64 12)∧HistAt w' B M base cnt s∧Below M w w':=by
 have hB:B < w.heap.size:=Nat.lt_of_lt_of_le H.lt2 H.lt3;have hM:M < w.heap.size:=Nat.lt_trans H.lt1 hB;have hc:=H.mapc;obtain⟨x,hr1,hx1⟩:=(H.map.alloc e.obj).drew.look e.p h0 h8;obtain rfl:=hx1 o hb;obtain⟨y,hr2,hx2⟩:=((H.map.alloc e.obj).alloc zeroObj).drew.look e.p h0 h8;obtain rfl:=hx2 x hb;rw[hb] at hr1 hr2;simp only[Option.isSome_some] at hr1 hr2;clear hx1 hx2 hb;unfold Opn.agg Ev.obj at hr1;unfold Opn.agg Ev.obj zeroObj at hr2;have HH:=H;clear H;unfold Ev.agg;have fin:∀W:World,W=((w.alloc e.obj).alloc y.obj).drew→HistAt W B M base cnt s∧Below M w W:=fun W hW=>by
  subst hW;exact⟨((HH.alloc _).alloc _).drew,((belA (belA (Below.refl _ _) _) _).drew).mono (Nat.le_of_lt hM)⟩
 have FIN:=hideIt fin;clear fin;cases a1:y.k==e.k
 ·have a1':(y.k != e.k)=true:=by simp[bne,a1]
  clear hne;go_enter Tryz.func74,Tryz.ntmps74
  go_wp2_with fail
  go_region
  all_goals
   go_wp2;go_ret;exact⟨rfl,FIN.out _ rfl⟩
 ·have a1':(y.k != e.k)=false:=by simp[bne,a1]
  cases a2:y.d==e.d
  ·have a2':(y.d != e.d)=true:=by simp[bne,a2]
   clear hne;go_enter Tryz.func74,Tryz.ntmps74
   go_wp2_with fail
   go_region
   all_goals
    go_wp2;go_ret;exact⟨rfl,FIN.out _ rfl⟩
  ·have a2':(y.d != e.d)=false:=by simp[bne,a2]
   cases a3:y.a==e.a
   ·have a3':(y.a != e.a)=true:=by simp[bne,a3]
    clear hne;go_enter Tryz.func74,Tryz.ntmps74
    go_wp2_with fail
    go_region
    all_goals
     go_wp2;go_ret;exact⟨rfl,FIN.out _ rfl⟩
   ·have a3':(y.a != e.a)=false:=by simp[bne,a3]
    have a4:(y.b==e.b)=false:=by simpa [sameB,a1,a2,a3] using hne
    have a4':(y.b != e.b)=true:=by simp[bne,a4]
    clear hne;go_enter Tryz.func74,Tryz.ntmps74
    go_wp2_with fail
    go_region
    all_goals
     go_wp2;go_ret;exact⟨rfl,FIN.out _ rfl⟩
open Go.RowKit
def OpIn (w:World) (b:Nat) (x:Opn):Prop:=OpAt w b 0 x∧∀j,w.frozen? ⟨b,j,none⟩=false
structure Mid (w0 : World) (e : Ev) (o : Opn) (v : Value) (B M base cnt : Nat) (s : Hs) (w : World) : Prop where
 hist:HistAt w B M base cnt s
 ev:EvIn w w0.heap.size e
 op:OpIn w (w0.heap.size+1) o
 bel:Below M w0 w
 row:w.cell? ⟨B,9,none⟩=some v
 own:∀g,v.ownBlock=some g→g < w0.heap.size
theorem mid_of {w w2:World} {e:Ev} {o:Opn} {v:Value} {B M base cnt:Nat} {s:Hs} {busy:Int→Option Opn} (H:HistAt w B M base cnt s) (hv:w.cell? ⟨B,9,none⟩=some v)
  (ht:((w.alloc e.obj).alloc o.obj).drew.drew.mapTurned w2 M) (hm:MapIs w2 M cnt busy):Mid w e o v B M base cnt ⟨busy,s.lost,s.done⟩ w2:=by
 have hB:B < w.heap.size:=Nat.lt_of_lt_of_le H.lt2 H.lt3;have hM:M < w.heap.size:=Nat.lt_trans H.lt1 hB;have hblk:∀b,b < w.heap.size+2→b≠M→w2.heap[b]?=((w.alloc e.obj).alloc o.obj).heap[b]?:=fun b hb hne=>ht.grown.block b (by simpa using hb) (fun k=>hne (Option.some.inj k))
 have hc:∀b j,b < w.heap.size+2→b≠M→w2.cell? ⟨b,j,none⟩=((w.alloc e.obj).alloc o.obj).cell? ⟨b,j,none⟩:=fun b j hb hne=>World.cell?_of_block (a:=⟨b,j,none⟩) (hblk b hb hne)
 have hf:∀b j,b < w.heap.size+2→b≠M→w2.frozen? ⟨b,j,none⟩=((w.alloc e.obj).alloc o.obj).frozen? ⟨b,j,none⟩:=fun b j hb hne=>World.frozen?_of_block (a:=⟨b,j,none⟩) (hblk b hb hne)
 refine⟨(((H.alloc _).alloc _).drew.drew).turned ht hm,?_,⟨?_,fun j=>?_⟩,?_,?_,?_⟩
 ·obtain⟨k0,k1,k2,k3,k4,k5,k6⟩:=evIn_new w e o.obj;have hne:w.heap.size≠M:=Nat.ne_of_gt hM;exact⟨(hc _ 0 (by omega) hne).trans k0,(hc _ 1 (by omega) hne).trans k1,(hc _ 2 (by omega) hne).trans k2,(hc _ 3 (by omega) hne).trans k3,(hc _ 4 (by omega) hne).trans k4,(hc _ 5 (by omega) hne).trans k5,(hc _ 6 (by omega) hne).trans k6⟩
 ·have hne:w.heap.size+1≠M:=by omega
  have k:=opAt_new (w.alloc e.obj) o;rw[show (w.alloc e.obj).heap.size=w.heap.size+1 from by simp] at k;obtain⟨k0,k1,k2,k3,k4,k5,k6,k7⟩:=k;exact⟨(hc _ 0 (by omega) hne).trans k0,(hc _ 1 (by omega) hne).trans k1,(hc _ 2 (by omega) hne).trans k2,(hc _ 3 (by omega) hne).trans k3,(hc _ 4 (by omega) hne).trans k4,(hc _ 5 (by omega) hne).trans k5,(hc _ 6 (by omega) hne).trans k6,(hc _ 7 (by omega) hne).trans k7⟩
 ·rw[hf _ j (by omega) (by omega)];have e1:w.heap.size+1=(w.alloc e.obj).heap.size:=by simp
  rw[e1];unfold Opn.obj;simp
 ·exact((belA (belA (Below.refl _ _) _) _).drew.drew.mono (Nat.le_of_lt hM)).trans (below_turned ht (by simp;omega))
 ·rw[hc B 9 (by omega) (Nat.ne_of_gt H.lt1),World.cell?_alloc_lt _ _ _ (by simp;omega),World.cell?_alloc_lt _ _ _ hB];exact hv
 ·intro g hg;obtain⟨v0,h1,_,h3⟩:=H.row;obtain rfl:=Option.some.inj (hv.symm.trans h1);exact(h3.lt g hg).2
set_option maxHeartbeats 2000000 in
theorem end_fail (e:Ev) (n:Int) (w:World) (B M base cnt:Nat) (s:Hs) (o:Opn) (H:HistAt w B M base cnt s) (h0:0≤e.p) (h8:e.p < 8) (hb:s.busy e.p=some o) (hsame:sameB o e=true) (ht2:e.t≠2) (ht4:e.t≠4):
  Calls Tryz.prog 74 #[.pointer (some ⟨B,0,none⟩),.int .i64 n,e.agg] w fun ev w'=>ev=.returned (.int .i64 0)∧HistAt w' B M base cnt ⟨setO s.busy e.p none,s.lost,s.done⟩∧Below M w w':=by
 have hB:B < w.heap.size:=Nat.lt_of_lt_of_le H.lt2 H.lt3;have hM:M < w.heap.size:=Nat.lt_trans H.lt1 hB;have hc:=H.mapc;obtain⟨x,hr1,hx1⟩:=(H.map.alloc e.obj).drew.look e.p h0 h8;have hx1:=hx1 o hb;subst hx1;obtain⟨y,hr2,hx2⟩:=((H.map.alloc e.obj).alloc zeroObj).drew.look e.p h0 h8;have hx2:=hx2 x hb;subst hx2;rw[hb] at hr1 hr2;simp only[Option.isSome_some] at hr1 hr2;obtain⟨v,hv,_,_⟩:=H.row;obtain⟨w2,hr3,hm3,ht3⟩:=(((H.map.alloc e.obj).alloc y.obj).drew.drew).drop e.p h0 h8 0;have MID:=hideIt (mid_of H hv ht3 hm3);clear hb hm3 ht3;unfold Opn.agg Ev.obj at hr1;unfold Opn.agg Ev.obj zeroObj at hr2;unfold Opn.obj Ev.obj at hr3;simp only[sameB,Bool.and_eq_true,beq_iff_eq] at hsame;obtain⟨⟨⟨a1,a2⟩,a3⟩,a4⟩:=hsame;have a1':(y.k != e.k)=false:=by simp[a1]
 have a2':(y.d != e.d)=false:=by simp[a2]
 have a3':(y.a != e.a)=false:=by simp[a3]
 have a4':(y.b != e.b)=false:=by simp[a4]
 have t2:(e.t==2)=false:=by simp[ht2]
 have t4:(e.t==4)=false:=by simp[ht4]
 clear a1 a2 a3 a4 ht2 ht4 hv H;unfold Ev.agg;go_enter Tryz.func74,Tryz.ntmps74
 go_wp2_with fail
 go_region
 all_goals
  clear hr1 hr2;go_upto_region 4 with fail
  obtain⟨k0,k1,k2,k3,k4,k5,k6⟩:=MID.out.ev;have kc:=MID.out.hist.mapc
  go_region_held3 (fun w'=>w'.cell? ⟨B,0,none⟩=some (.map (some M))∧w'.cell? ⟨w.heap.size,0,none⟩=some (.int .i64 e.p)) (go_keep) (fail)
  go_wp2;go_ret;exact⟨rfl,MID.out.hist,MID.out.bel⟩
end Go.Proofs.YtjpklmighoondaaGreatDoor
