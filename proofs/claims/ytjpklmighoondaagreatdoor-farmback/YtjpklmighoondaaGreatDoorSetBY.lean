/-
  A call of a set: looked for by halves; put in, or taken out, in place.
  What a call makes of a state that is one's own, whatever the object: walked.
  What Step of package model tells, and the world that it leaves: walked.
  A set's state, put into and dropped from, the document's way: the same where the state rises.
-/
import Derived.Test.YtjpklmighoondaaGreatDoorWalkQY
import Derived.Deep.RegionHeld3
import Derived.Deep.RegionWith
set_option maxRecDepth 100000
namespace Go.Proofs.YtjpklmighoondaaGreatDoor
open Go.RowKit
theorem place_le (st:List Int) (a:Int):placeOf st a≤st.length:=List.countP_le_length
theorem place_lt {st:List Int} {a:Int} (h:st.contains a=true):placeOf st a < st.length:=by
 unfold placeOf;have hm:a∈st:=by simpa using h
 rcases Nat.lt_or_ge (st.countP (· < a)) st.length with h | h
 ·exact h
 ·have:=List.countP_eq_length.1 (Nat.le_antisymm List.countP_le_length h) a hm;simp at this
theorem oneAt_new (w:World) (a:Int) {n:Nat} (h:n=w.heap.size):OneAt (w.alloc (.cells #[.int .i64 a] 3)) n a:=by subst h;exact heap_alloc_new _ _
theorem setM_put {st:List Int} {k a:Int} (hk:k=6) (h:st.contains a=false):setM st k a=(insL st (placeOf st a) a,1):=by
 simp only[setM,hk,h,insL];simp
theorem setM_drop {st:List Int} {k a:Int} (hk:k=7) (h:st.contains a=true):setM st k a=(delL st (placeOf st a),1):=by
 simp only[setM,hk,h,delL];simp
theorem setM_has {st:List Int} {k a:Int} (hk:k=8) (h:st.contains a=true):setM st k a=(st,1):=by
 simp only[setM,hk,h];simp
theorem setM_rest {st:List Int} {k a:Int} (h6:k=6→st.contains a=true) (h7:k=7→st.contains a=false) (h8:k=8→st.contains a=false):setM st k a=(st,0):=by
 unfold setM;rw[if_neg (fun h=>by rw[h6 h.1] at h;simp at h),if_neg (fun h=>by rw[h7 h.1] at h;simp at h),if_neg (fun h=>by rw[h8 h.1] at h;simp at h)]
set_option maxHeartbeats 2000000 in
theorem callSet_any (st:List Int) (op:Opn) (v:Value) (base:Nat) (w:World) (h:RowAt w base v st) (hs:st.Pairwise (· ≤ ·)) (hlen:st.length≤100000) (hbase:base≤w.heap.size):
  Calls Tryz.prog 207 #[v,op.agg] w fun e w'=>∃v',e=.returned (.tuple #[v',.int .i64 (setM st op.d op.a).2])∧Turned w base v w' v' (setM st op.d op.a).1:=by
 have hgr:=World.grownBy_alloc w op.obj none;have HR:=hideIt (h.new hgr);have HG:=hideIt hgr;have HV:=hideIt h.lt;unfold Opn.obj at HR HG;unfold Opn.agg;have hpl:=place_le st op.a;have HP:=hideIt (@place_lt st op.a);obtain⟨c,hc⟩:∃c,st.contains op.a=c:=⟨_,rfl⟩;obtain⟨pl,hpq⟩:∃pl,placeOf st op.a=pl:=⟨_,rfl⟩;have HS:=hideIt (search_any st op.a v base _ HR.out hs hlen);rw[hc,hpq] at HS HP;rw[hpq] at hpl;have HC:=hideIt hc;clear hc;clear h hgr;cases h6:(op.d==6)
 ·have n6:op.d≠6:=by simpa using h6
  cases h7:(op.d==7)
  ·have n7:op.d≠7:=by simpa using h7
   cases h8:(op.d==8)
   ·have n8:op.d≠8:=by simpa using h8
    rw[setM_rest (fun e=>absurd e n6) (fun e=>absurd e n7) (fun e=>absurd e n8)];clear n6 n7 n8;go_enter Tryz.func207,Tryz.ntmps207
    go_wp2_with (go_at_call 246;refine HS.out.mono ?_;rintro e w1 ⟨rfl,q,rfl⟩)
    go_ret2;exact⟨_,rfl,(turned_same (HR.out.new (grown_drewN _ q _))).behind (HG.out.trans (grown_drewN _ _ _))⟩
   ·have n8:op.d=8:=by simpa using h8
    cases c
    ·rw[setM_rest (fun e=>absurd e n6) (fun e=>absurd e n7) (fun _=>HC.out)];clear n6 n7 n8;go_enter Tryz.func207,Tryz.ntmps207
     go_wp2_with (go_at_call 246;refine HS.out.mono ?_;rintro e w1 ⟨rfl,q,rfl⟩)
     go_ret2;exact⟨_,rfl,(turned_same (HR.out.new (grown_drewN _ q _))).behind (HG.out.trans (grown_drewN _ _ _))⟩
    ·rw[setM_has n8 HC.out];clear n6 n7 n8;go_enter Tryz.func207,Tryz.ntmps207
     go_wp2_with (go_at_call 246;refine HS.out.mono ?_;rintro e w1 ⟨rfl,q,rfl⟩)
     go_ret2;exact⟨_,rfl,(turned_same (HR.out.new (grown_drewN _ q _))).behind (HG.out.trans (grown_drewN _ _ _))⟩
  ·have n7:op.d=7:=by simpa using h7
   have h8:(op.d==8)=false:=by rw[n7];rfl
   cases c
   ·rw[setM_rest (fun e=>absurd e n6) (fun _=>HC.out) (fun e=>absurd (n7.symm.trans e) (by decide))];clear n6 n7;go_enter Tryz.func207,Tryz.ntmps207
    go_wp2_with (go_at_call 246;refine HS.out.mono ?_;rintro e w1 ⟨rfl,q,rfl⟩)
    go_ret2;exact⟨_,rfl,(turned_same (HR.out.new (grown_drewN _ q _))).behind (HG.out.trans (grown_drewN _ _ _))⟩
   ·rw[setM_drop n7 HC.out,hpq];have hpos:=HP.out rfl;have hwr:IntKind.i64.wrap ((pl:Int)+1)=((pl+1:Nat):Int):=by rw[IntKind.wrap_i64];omega
    clear n6 n7;go_enter Tryz.func207,Tryz.ntmps207
    go_wp2_with (first | (go_at_call 246;refine HS.out.mono ?_;rintro e w1 ⟨rfl,q,rfl⟩) | (go_at_call 248;refine(delete_any st pl v base _ (HR.out.new (grown_drewN _ q _)) hpos).mono ?_;rintro e w2 ⟨v',rfl,ht⟩))
    go_ret2;exact⟨_,rfl,ht.behind (HG.out.trans (grown_drewN _ _ _))⟩
 ·have n6:op.d=6:=by simpa using h6
  have h7:(op.d==7)=false:=by rw[n6];rfl
  have h8:(op.d==8)=false:=by rw[n6];rfl
  cases c
  ·rw[setM_put n6 HC.out,hpq];clear n6;go_enter Tryz.func207,Tryz.ntmps207
   go_wp2_with (first | (go_at_call 246;refine HS.out.mono ?_;rintro e w1 ⟨rfl,q,rfl⟩) | (go_at_call 247;refine(insert_any st pl op.a v base _ _ _ ((HR.out.new (grown_drewN _ q _)).new (World.grownBy_alloc _ _ none)) hpl hlen ?c1 ?c2 ?c3).mono ?_))
   case c1=>simp[World.drewN];omega
   case c2=>exact oneAt_new _ _ (by simp[World.drewN])
   case c3=>
    intro e;have:=(HV.out _ e).2;omega
   rintro e w2 ⟨v',rfl,ht⟩;have HT:=hideIt (ht.behind ((HG.out.trans (grown_drewN _ _ _)).trans (World.grownBy_alloc _ _ none)));clear ht;go_wp2;go_ret2;exact⟨_,rfl,HT.out⟩
  ·rw[setM_rest (fun _=>HC.out) (fun e=>absurd (n6.symm.trans e) (by decide)) (fun e=>absurd (n6.symm.trans e) (by decide))];clear n6;go_enter Tryz.func207,Tryz.ntmps207
   go_wp2_with (go_at_call 246;refine HS.out.mono ?_;rintro e w1 ⟨rfl,q,rfl⟩)
   go_ret2;exact⟨_,rfl,(turned_same (HR.out.new (grown_drewN _ q _))).behind (HG.out.trans (grown_drewN _ _ _))⟩
open Go.RowKit
theorem OpAt.kept {w w':World} {b off:Nat} {x:Opn} {row:Option Nat} (h:OpAt w b off x) (hg:w.grownBy w' row) (hne:some b≠row):OpAt w' b off x:=by
 obtain⟨h0,h1,h2,h3,h4,h5,h6,h7⟩:=h;exact⟨hg.cell h0 hne,hg.cell h1 hne,hg.cell h2 hne,hg.cell h3 hne,hg.cell h4 hne,hg.cell h5 hne,hg.cell h6 hne,hg.cell h7 hne⟩
theorem opAt_obj (w:World) (x:Opn):OpAt (w.alloc x.obj) w.heap.size 0 x:=by
 unfold Opn.obj;exact⟨by simp,by simp,by simp,by simp,by simp,by simp,by simp,by simp⟩
def CallTold (w:World) (base:Nat) (v:Value) (r:Option (List Int×Int)) (e:Ending) (w':World):Prop:=
 match r with
 | none=>e=.returned (.tuple #[.slice none 0 0,.int .i64 0,.bool false])∧w.grownBy w' v.ownBlock
 | some (st',n)=>∃v',e=.returned (.tuple #[v',.int .i64 n,.bool true])∧Turned w base v w' v' st'
theorem stepM_unknown {o k a b:Int} {st:List Int} (h:knowsB o k=false):stepM o st k a b=none:=by simp[stepM,h]
theorem stepM_len {o k a b:Int} {st:List Int} (h:oneB o=true) (hl:st.length≠1):stepM o st k a b=none:=by simp[stepM,h,hl]
theorem knows_object {o k:Int} (h:knowsB o k=true):o=1∨o=2∨o=3∨o=4∨o=5∨o=6:=by
 unfold knowsB at h;simp at h;omega
set_option maxHeartbeats 1000000 in
theorem call_unknown (o:Int) (st:List Int) (op:Opn) (v:Value) (base:Nat) (w:World) (hK:KnownAt w) (hpos:0 < w.heap.size) (h:knowsB o op.d=false):
  Calls Tryz.prog 141 #[.int .i64 o,v,op.agg] w fun e w'=>CallTold w base v (stepM o st op.d op.a op.b) e w':=by
 rw[stepM_unknown h];have hgr:=World.grownBy_alloc w op.obj none;have HK:=hideIt (hK.below (Nat.lt_of_lt_of_le hpos (Nat.le_refl _)) (below_grown hgr));have HG:=hideIt hgr;unfold Opn.obj at HK HG;unfold Opn.agg;have HS:=hideIt (knows_any o op.d _ HK.out);rw[h] at HS;clear hgr hK h;go_enter Tryz.func141,Tryz.ntmps141
 go_wp2_with (go_at_call 81;refine HS.out.mono ?_;rintro e w1 ⟨rfl,rfl⟩)
 go_ret3
 exact⟨rfl,HG.out.but _⟩
set_option maxHeartbeats 1000000 in
theorem call_len (o:Int) (st:List Int) (op:Opn) (a:Option Addr) (cap:Nat) (base:Nat) (w:World) (hK:KnownAt w) (hpos:0 < w.heap.size) (h:knowsB o op.d=true) (h1:oneB o=true) (hl:st.length≠1):
  Calls Tryz.prog 141 #[.int .i64 o,.slice a st.length cap,op.agg] w fun e w'=>CallTold w base (.slice a st.length cap) (stepM o st op.d op.a op.b) e w':=by
 rw[stepM_len h1 hl];have hgr:=World.grownBy_alloc w op.obj none;have HK:=hideIt (hK.below (Nat.lt_of_lt_of_le hpos (Nat.le_refl _)) (below_grown hgr));have HG:=hideIt hgr;unfold Opn.obj at HK HG;unfold Opn.agg;have HS:=hideIt (knows_any o op.d _ HK.out);have HO:=hideIt (one_any o);rw[h] at HS;rw[h1] at HO;have hn:((st.length:Int) != 1)=true:=by simp;omega
 clear hgr hK h h1 hl;go_enter Tryz.func141,Tryz.ntmps141
 go_wp2_with (first | (go_at_call 81;refine HS.out.mono ?_;rintro e w1 ⟨rfl,rfl⟩) | (go_at_call 204;refine(HO.out _).mono ?_;rintro e w1 ⟨rfl,rfl⟩))
 go_ret3
 exact⟨rfl,HG.out.but _⟩
theorem stepM_reg {k a b x:Int} (h:knowsB 1 k=true):stepM 1 [x] k a b=some ([(regM x k a b).1],(regM x k a b).2):=by simp[stepM,h]
theorem stepM_cnt {k a b x:Int} (h:knowsB 2 k=true):stepM 2 [x] k a b=some ([(cntM x k a).1],(cntM x k a).2):=by simp[stepM,h]
theorem stepM_mut {k a b x:Int} (h:knowsB 6 k=true):stepM 6 [x] k a b=(mutM x k).map fun y=>([y],0):=by simp[stepM,h]
theorem stepM_set {k a b:Int} {st:List Int} (h:knowsB 3 k=true):stepM 3 st k a b=some (setM st k a):=by simp[stepM,h,oneB]
theorem stepM_que {k a b:Int} {st:List Int} (h:knowsB 4 k=true):stepM 4 st k a b=some (queM st k a):=by simp[stepM,h,oneB]
theorem stepM_sta {k a b:Int} {st:List Int} (h:knowsB 5 k=true):stepM 5 st k a b=some (staM st k a):=by simp[stepM,h,oneB]
theorem turned_write {w w1:World} {base g off cap:Nat} {x y:Int} (h:RowAt w base (.slice (some ⟨g,off,none⟩) 1 cap) [x]) (hg:w.grownBy w1 none) {w':World} (hw:y=x∧w'=w1∨w'=w1.setCell ⟨g,off,none⟩ (.int .i64 y)):
  Turned w base (.slice (some ⟨g,off,none⟩) 1 cap) w' (.slice (some ⟨g,off,none⟩) 1 cap) [y]:=by
 rcases hw with ⟨rfl,rfl⟩ | rfl
 ·exact(turned_same (h.new hg)).behind hg
 ·exact⟨(h.new hg).write y,(hg.but _).trans (grown_setCell _ _ _),fun k hk=>.inl hk⟩
theorem turned_grown {w w1 w':World} {g off:Nat} {y:Int} (hg:w.grownBy w1 none) (hw:w'=w1∨w'=w1.setCell ⟨g,off,none⟩ (.int .i64 y)):w.grownBy w' (some g):=by
 rcases hw with rfl | rfl
 ·exact hg.but _
 ·exact(hg.but _).trans (grown_setCell _ _ _)
set_option maxHeartbeats 1000000 in
theorem call_reg (x:Int) (op:Opn) (g off cap:Nat) (base:Nat) (w:World) (hK:KnownAt w) (hpos:0 < w.heap.size) (h:knowsB 1 op.d=true) (hr:RowAt w base (.slice (some ⟨g,off,none⟩) 1 cap) [x]):
  Calls Tryz.prog 141 #[.int .i64 1,.slice (some ⟨g,off,none⟩) 1 cap,op.agg] w fun e w'=>CallTold w base (.slice (some ⟨g,off,none⟩) 1 cap) (stepM 1 [x] op.d op.a op.b) e w':=by
 rw[stepM_reg h];have hgr:=World.grownBy_alloc w op.obj none;have HK:=hideIt (hK.below (Nat.lt_of_lt_of_le hpos (Nat.le_refl _)) (below_grown hgr));have HG:=hideIt (hgr.trans (grown_drew _ _));have HR:=hideIt hr;have hn:=hr.num;have HP:=hideIt (show some w.heap.size≠some g from fun e=>by have:=hn.lt;simp at e;omega);have HD:=hideIt (opAt_obj w op);obtain⟨d0,d1,d2,d3,d4,d5,d6,d7⟩:=opAt_obj w op;have HC:=hideIt (callRegister_any x op g off (w.alloc op.obj).drew ⟨(hn.alloc op.obj).cell,(hn.alloc op.obj).fz,(hn.alloc op.obj).lt⟩);unfold Opn.obj at HK HG HC HD d0 d1 d2 d3 d4 d5 d6 d7;unfold Opn.agg at HC;have HS:=hideIt (knows_any 1 op.d _ HK.out);have HO:=hideIt (one_any 1);rw[h] at HS;rw[show oneB 1=true from rfl] at HO;unfold Opn.agg;clear hgr hK h hr hn;go_enter Tryz.func141,Tryz.ntmps141
 go_wp2_with (first | (go_at_call 81;refine HS.out.mono ?_;rintro e w1 ⟨rfl,rfl⟩) | (go_at_call 204;refine(HO.out _).mono ?_;rintro e w1 ⟨rfl,rfl⟩) | fail)
 go_region_held3 (fun w'=>w'.cell? ⟨w.heap.size,0,none⟩=some (.int .i64 op.p)∧w'.cell? ⟨w.heap.size,1,none⟩=some (.int .i64 op.k)∧w'.cell? ⟨w.heap.size,2,none⟩=some (.int .i64 op.d)∧w'.cell? ⟨w.heap.size,3,none⟩=some (.int .i64 op.a)∧w'.cell? ⟨w.heap.size,4,none⟩=some (.int .i64 op.b)∧w'.cell? ⟨w.heap.size,5,none⟩=some (.int .i64 op.r)∧w'.cell? ⟨w.heap.size,6,none⟩=some (.int .i64 op.c)∧w'.cell? ⟨w.heap.size,7,none⟩=some (.int .i64 op.e)) (go_keep)
  (first | (go_at_call 205;refine HC.out.mono ?_;rintro e w2 ⟨rfl,w1,hg1,hw2⟩;have HW:=hideIt hg1;have HX:=hideIt hw2;obtain⟨p0,p1,p2,p3,p4,p5,p6,p7⟩:=(HD.out.kept (row:=some g) ((grown_drew _ _).trans (turned_grown hg1 (hw2.imp And.right id))) HP.out);clear hg1 hw2))
 go_wp2
 go_ret3
 exact⟨_,rfl,(turned_write (HR.out.new HG.out) HW.out HX.out).behind HG.out⟩
set_option maxHeartbeats 1000000 in
theorem call_cnt (x:Int) (op:Opn) (g off cap:Nat) (base:Nat) (w:World) (hK:KnownAt w) (hpos:0 < w.heap.size) (h:knowsB 2 op.d=true) (hr:RowAt w base (.slice (some ⟨g,off,none⟩) 1 cap) [x]):
  Calls Tryz.prog 141 #[.int .i64 2,.slice (some ⟨g,off,none⟩) 1 cap,op.agg] w fun e w'=>CallTold w base (.slice (some ⟨g,off,none⟩) 1 cap) (stepM 2 [x] op.d op.a op.b) e w':=by
 rw[stepM_cnt h];have hgr:=World.grownBy_alloc w op.obj none;have HK:=hideIt (hK.below (Nat.lt_of_lt_of_le hpos (Nat.le_refl _)) (below_grown hgr));have HG:=hideIt (hgr.trans (grown_drew _ _));have HR:=hideIt hr;have hn:=hr.num;have HP:=hideIt (show some w.heap.size≠some g from fun e=>by have:=hn.lt;simp at e;omega);have HD:=hideIt (opAt_obj w op);obtain⟨d0,d1,d2,d3,d4,d5,d6,d7⟩:=opAt_obj w op;have HC:=hideIt (callCounter_any x op g off (w.alloc op.obj).drew ⟨(hn.alloc op.obj).cell,(hn.alloc op.obj).fz,(hn.alloc op.obj).lt⟩);unfold Opn.obj at HK HG HC HD d0 d1 d2 d3 d4 d5 d6 d7;unfold Opn.agg at HC;have HS:=hideIt (knows_any 2 op.d _ HK.out);have HO:=hideIt (one_any 2);rw[h] at HS;rw[show oneB 2=true from rfl] at HO;unfold Opn.agg;clear hgr hK h hr hn;go_enter Tryz.func141,Tryz.ntmps141
 go_wp2_with (first | (go_at_call 81;refine HS.out.mono ?_;rintro e w1 ⟨rfl,rfl⟩) | (go_at_call 204;refine(HO.out _).mono ?_;rintro e w1 ⟨rfl,rfl⟩) | fail)
 go_region_held3 (fun w'=>w'.cell? ⟨w.heap.size,0,none⟩=some (.int .i64 op.p)∧w'.cell? ⟨w.heap.size,1,none⟩=some (.int .i64 op.k)∧w'.cell? ⟨w.heap.size,2,none⟩=some (.int .i64 op.d)∧w'.cell? ⟨w.heap.size,3,none⟩=some (.int .i64 op.a)∧w'.cell? ⟨w.heap.size,4,none⟩=some (.int .i64 op.b)∧w'.cell? ⟨w.heap.size,5,none⟩=some (.int .i64 op.r)∧w'.cell? ⟨w.heap.size,6,none⟩=some (.int .i64 op.c)∧w'.cell? ⟨w.heap.size,7,none⟩=some (.int .i64 op.e)) (go_keep)
  (first | (go_at_call 206;refine HC.out.mono ?_;rintro e w2 ⟨rfl,w1,hg1,hw2⟩;have HW:=hideIt hg1;have HX:=hideIt hw2;obtain⟨p0,p1,p2,p3,p4,p5,p6,p7⟩:=(HD.out.kept (row:=some g) ((grown_drew _ _).trans (turned_grown hg1 (hw2.imp And.right id))) HP.out);clear hg1 hw2))
 go_wp2
 go_ret3
 exact⟨_,rfl,(turned_write (HR.out.new HG.out) HW.out HX.out).behind HG.out⟩
set_option maxHeartbeats 1000000 in
theorem call_mut (x:Int) (op:Opn) (g off cap:Nat) (base:Nat) (w:World) (hK:KnownAt w) (hpos:0 < w.heap.size) (h:knowsB 6 op.d=true) (hr:RowAt w base (.slice (some ⟨g,off,none⟩) 1 cap) [x]):
  Calls Tryz.prog 141 #[.int .i64 6,.slice (some ⟨g,off,none⟩) 1 cap,op.agg] w fun e w'=>CallTold w base (.slice (some ⟨g,off,none⟩) 1 cap) (stepM 6 [x] op.d op.a op.b) e w':=by
 rw[stepM_mut h];have hgr:=World.grownBy_alloc w op.obj none;have HK:=hideIt (hK.below (Nat.lt_of_lt_of_le hpos (Nat.le_refl _)) (below_grown hgr));have HG:=hideIt (hgr.trans (grown_drew _ _));have HR:=hideIt hr;have hn:=hr.num;have HP:=hideIt (show some w.heap.size≠some g from fun e=>by have:=hn.lt;simp at e;omega);have HD:=hideIt (opAt_obj w op);obtain⟨d0,d1,d2,d3,d4,d5,d6,d7⟩:=opAt_obj w op;have HC:=hideIt (callMutex_any x op g off (w.alloc op.obj).drew ⟨(hn.alloc op.obj).cell,(hn.alloc op.obj).fz,(hn.alloc op.obj).lt⟩);unfold Opn.obj at HK HG HC HD d0 d1 d2 d3 d4 d5 d6 d7;unfold Opn.agg at HC;have HS:=hideIt (knows_any 6 op.d _ HK.out);have HO:=hideIt (one_any 6);rw[h] at HS;rw[show oneB 6=true from rfl] at HO;unfold Opn.agg;clear hgr hK h hr hn;obtain⟨m,hm⟩:∃m,mutM x op.d=m:=⟨_,rfl⟩;rw[hm] at HC ⊢;clear hm;cases m with
 | none=>
  go_enter Tryz.func141,Tryz.ntmps141
  go_wp2_with (first | (go_at_call 81;refine HS.out.mono ?_;rintro e w1 ⟨rfl,rfl⟩) | (go_at_call 204;refine(HO.out _).mono ?_;rintro e w1 ⟨rfl,rfl⟩) | fail)
  go_region_held3 (fun w'=>w'.cell? ⟨w.heap.size,0,none⟩=some (.int .i64 op.p)∧w'.cell? ⟨w.heap.size,1,none⟩=some (.int .i64 op.k)∧w'.cell? ⟨w.heap.size,2,none⟩=some (.int .i64 op.d)∧w'.cell? ⟨w.heap.size,3,none⟩=some (.int .i64 op.a)∧w'.cell? ⟨w.heap.size,4,none⟩=some (.int .i64 op.b)∧w'.cell? ⟨w.heap.size,5,none⟩=some (.int .i64 op.r)∧w'.cell? ⟨w.heap.size,6,none⟩=some (.int .i64 op.c)∧w'.cell? ⟨w.heap.size,7,none⟩=some (.int .i64 op.e)) (go_keep)
   (first | (go_at_call 210;refine HC.out.mono ?_;rintro e w2 ⟨rfl,w1,hg1,hw2⟩;have HW:=hideIt hg1;have HX:=hideIt hw2;obtain⟨p0,p1,p2,p3,p4,p5,p6,p7⟩:=(HD.out.kept (row:=some g) ((grown_drew _ _).trans (turned_grown (off:=0) (y:=0) hg1 (hw2.elim (fun h=>.inl h.2) (fun h=>by obtain⟨y,e,_⟩:=h;cases e)))) HP.out);clear hg1 hw2))
  go_wp2
  go_ret3
  exact⟨rfl,(HG.out.but _).trans (turned_grown (off:=0) (y:=0) HW.out (HX.out.elim (fun h=>.inl h.2) (fun h=>by obtain⟨y,e,_⟩:=h;cases e)))⟩
 | some y=>
  go_enter Tryz.func141,Tryz.ntmps141
  go_wp2_with (first | (go_at_call 81;refine HS.out.mono ?_;rintro e w1 ⟨rfl,rfl⟩) | (go_at_call 204;refine(HO.out _).mono ?_;rintro e w1 ⟨rfl,rfl⟩) | fail)
  go_region_held3 (fun w'=>w'.cell? ⟨w.heap.size,0,none⟩=some (.int .i64 op.p)∧w'.cell? ⟨w.heap.size,1,none⟩=some (.int .i64 op.k)∧w'.cell? ⟨w.heap.size,2,none⟩=some (.int .i64 op.d)∧w'.cell? ⟨w.heap.size,3,none⟩=some (.int .i64 op.a)∧w'.cell? ⟨w.heap.size,4,none⟩=some (.int .i64 op.b)∧w'.cell? ⟨w.heap.size,5,none⟩=some (.int .i64 op.r)∧w'.cell? ⟨w.heap.size,6,none⟩=some (.int .i64 op.c)∧w'.cell? ⟨w.heap.size,7,none⟩=some (.int .i64 op.e)) (go_keep)
   (first | (go_at_call 210;refine HC.out.mono ?_;rintro e w2 ⟨rfl,w1,hg1,hw2⟩;have HW:=hideIt hg1;have HX:=hideIt hw2;obtain⟨p0,p1,p2,p3,p4,p5,p6,p7⟩:=(HD.out.kept (row:=some g) ((grown_drew _ _).trans (turned_grown (y:=y) hg1 (hw2.elim (fun h=>by cases h.1) (fun h=>by obtain⟨z,e,hz⟩:=h;obtain rfl:=Option.some.inj e;exact .inr hz)))) HP.out);clear hg1 hw2))
  go_wp2
  go_ret3
  exact⟨_,rfl,(turned_write (HR.out.new HG.out) HW.out (HX.out.elim (fun h=>by cases h.1) (fun h=>by obtain⟨z,e,hz⟩:=h;obtain rfl:=Option.some.inj e;exact .inr hz))).behind HG.out⟩
set_option maxHeartbeats 1000000 in
theorem call_set (st:List Int) (op:Opn) (v:Value) (base:Nat) (w:World) (hK:KnownAt w) (hpos:0 < w.heap.size) (h:knowsB 3 op.d=true)
  (hc:∀W,RowAt W base v st→base≤W.heap.size→Calls Tryz.prog 207 #[v,op.agg] W fun e w'=>∃v',e=.returned (.tuple #[v',.int .i64 (setM st op.d op.a).2])∧Turned W base v w' v' (setM st op.d op.a).1)
  (hr:RowAt w base v st) (hbase:base≤w.heap.size):
  Calls Tryz.prog 141 #[.int .i64 3,v,op.agg] w fun e w'=>CallTold w base v (stepM 3 st op.d op.a op.b) e w':=by
 rw[stepM_set h];have hgr:=World.grownBy_alloc w op.obj none;have HK:=hideIt (hK.below (Nat.lt_of_lt_of_le hpos (Nat.le_refl _)) (below_grown hgr));have HG:=hideIt hgr;have HC:=hideIt (hc _ (hr.new hgr) (Nat.le_trans hbase hgr.size));unfold Opn.obj at HK HG HC;unfold Opn.agg at HC;have HS:=hideIt (knows_any 3 op.d _ HK.out);have HO:=hideIt (one_any 3);rw[h] at HS;rw[show oneB 3=false from rfl] at HO;unfold Opn.agg;clear hgr hK h hr hc;go_enter Tryz.func141,Tryz.ntmps141
 go_wp2_with (first | (go_at_call 81;refine HS.out.mono ?_;rintro e w1 ⟨rfl,rfl⟩) | (go_at_call 204;refine(HO.out _).mono ?_;rintro e w1 ⟨rfl,rfl⟩) | (go_at_call 207;refine HC.out.mono ?_;rintro e w1 ⟨v',rfl,ht⟩;have HT:=hideIt ht;clear ht))
 go_ret3
 exact⟨_,rfl,HT.out.behind HG.out⟩
set_option maxHeartbeats 1000000 in
theorem call_que (st:List Int) (op:Opn) (v:Value) (base:Nat) (w:World) (hK:KnownAt w) (hpos:0 < w.heap.size) (h:knowsB 4 op.d=true)
  (hc:∀W,RowAt W base v st→base≤W.heap.size→Calls Tryz.prog 208 #[v,op.agg] W fun e w'=>∃v',e=.returned (.tuple #[v',.int .i64 (queM st op.d op.a).2])∧Turned W base v w' v' (queM st op.d op.a).1)
  (hr:RowAt w base v st) (hbase:base≤w.heap.size):
  Calls Tryz.prog 141 #[.int .i64 4,v,op.agg] w fun e w'=>CallTold w base v (stepM 4 st op.d op.a op.b) e w':=by
 rw[stepM_que h];have hgr:=World.grownBy_alloc w op.obj none;have HK:=hideIt (hK.below (Nat.lt_of_lt_of_le hpos (Nat.le_refl _)) (below_grown hgr));have HG:=hideIt hgr;have HC:=hideIt (hc _ (hr.new hgr) (Nat.le_trans hbase hgr.size));unfold Opn.obj at HK HG HC;unfold Opn.agg at HC;have HS:=hideIt (knows_any 4 op.d _ HK.out);have HO:=hideIt (one_any 4);rw[h] at HS;rw[show oneB 4=false from rfl] at HO;unfold Opn.agg;clear hgr hK h hr hc;go_enter Tryz.func141,Tryz.ntmps141
 go_wp2_with (first | (go_at_call 81;refine HS.out.mono ?_;rintro e w1 ⟨rfl,rfl⟩) | (go_at_call 204;refine(HO.out _).mono ?_;rintro e w1 ⟨rfl,rfl⟩) | (go_at_call 208;refine HC.out.mono ?_;rintro e w1 ⟨v',rfl,ht⟩;have HT:=hideIt ht;clear ht))
 go_ret3
 exact⟨_,rfl,HT.out.behind HG.out⟩
set_option maxHeartbeats 1000000 in
theorem call_sta (st:List Int) (op:Opn) (v:Value) (base:Nat) (w:World) (hK:KnownAt w) (hpos:0 < w.heap.size) (h:knowsB 5 op.d=true)
  (hc:∀W,RowAt W base v st→base≤W.heap.size→Calls Tryz.prog 209 #[v,op.agg] W fun e w'=>∃v',e=.returned (.tuple #[v',.int .i64 (staM st op.d op.a).2])∧Turned W base v w' v' (staM st op.d op.a).1)
  (hr:RowAt w base v st) (hbase:base≤w.heap.size):
  Calls Tryz.prog 141 #[.int .i64 5,v,op.agg] w fun e w'=>CallTold w base v (stepM 5 st op.d op.a op.b) e w':=by
 rw[stepM_sta h];have hgr:=World.grownBy_alloc w op.obj none;have HK:=hideIt (hK.below (Nat.lt_of_lt_of_le hpos (Nat.le_refl _)) (below_grown hgr));have HG:=hideIt hgr;have HC:=hideIt (hc _ (hr.new hgr) (Nat.le_trans hbase hgr.size));unfold Opn.obj at HK HG HC;unfold Opn.agg at HC;have HS:=hideIt (knows_any 5 op.d _ HK.out);have HO:=hideIt (one_any 5);rw[h] at HS;rw[show oneB 5=false from rfl] at HO;unfold Opn.agg;clear hgr hK h hr hc;go_enter Tryz.func141,Tryz.ntmps141
 go_wp2_with (first | (go_at_call 81;refine HS.out.mono ?_;rintro e w1 ⟨rfl,rfl⟩) | (go_at_call 204;refine(HO.out _).mono ?_;rintro e w1 ⟨rfl,rfl⟩) | (go_at_call 209;refine HC.out.mono ?_;rintro e w1 ⟨v',rfl,ht⟩;have HT:=hideIt ht;clear ht))
 go_ret3
 exact⟨_,rfl,HT.out.behind HG.out⟩
theorem call_any (o:Int) (st:List Int) (op:Opn) (v:Value) (base:Nat) (w:World) (hK:KnownAt w) (hr:RowAt w base v st) (hrise:o=3→st.Pairwise (· ≤ ·)) (hlen:st.length≤100000) (hbase:base≤w.heap.size) (hpos:0 < w.heap.size):
  Calls Tryz.prog 141 #[.int .i64 o,v,op.agg] w fun e w'=>CallTold w base v (stepM o st op.d op.a op.b) e w':=by
 cases hk:knowsB o op.d
 ·exact call_unknown o st op v base w hK hpos hk
 ·by_cases h1:oneB o=true∧st.length≠1
  ·obtain⟨a,cap,rfl,_⟩:=hr.has;exact call_len o st op a cap base w hK hpos hk h1.1 h1.2
  ·have hone:oneB o=true→∃x,st= [x]:=fun e=>by
    have:st.length=1:=by
     by_cases h:st.length=1
     ·exact h
     ·exact absurd ⟨e,h⟩ h1
    exact List.length_eq_one_iff.1 this
   rcases knows_object hk with rfl | rfl | rfl | rfl | rfl | rfl
   ·obtain⟨x,rfl⟩:=hone rfl;rcases hr with ⟨_,h⟩ | ⟨g,off,cap,cur,rfl,h⟩
    ·cases h
    ·exact call_reg x op g off cap base w hK hpos hk (.inr ⟨g,off,cap,cur,rfl,h⟩)
   ·obtain⟨x,rfl⟩:=hone rfl;rcases hr with ⟨_,h⟩ | ⟨g,off,cap,cur,rfl,h⟩
    ·cases h
    ·exact call_cnt x op g off cap base w hK hpos hk (.inr ⟨g,off,cap,cur,rfl,h⟩)
   ·exact call_set st op v base w hK hpos hk (fun W h hb=>callSet_any st op v base W h (hrise rfl) hlen hb) hr hbase
   ·refine call_que st op v base w hK hpos hk (fun W h hb=>?_) hr hbase;by_cases h9:op.d=9
    ·exact callQueue_push st op v base W h hlen hb h9
    ·exact callQueue_pop st op v base W h h9 hlen
   ·refine call_sta st op v base w hK hpos hk (fun W h hb=>?_) hr hbase;by_cases h9:op.d=9
    ·exact callStack_push st op v base W h hlen hb h9
    ·exact callStack_pop st op v base W h h9 hlen
   ·obtain⟨x,rfl⟩:=hone rfl;rcases hr with ⟨_,h⟩ | ⟨g,off,cap,cur,rfl,h⟩
    ·cases h
    ·exact call_mut x op g off cap base w hK hpos hk (.inr ⟨g,off,cap,cur,rfl,h⟩)
open Go.RowKit
theorem clone_any (st:List Int) (v:Value) (w:World) (h:HasInts w v st) (hlen:st.length≤100000):
  Calls Tryz.prog 291 #[v] w fun e w'=>∃v',e=.returned v'∧RowAt w' w.heap.size v' st∧Below w.heap.size w w':=by
 obtain⟨a,cap,rfl,h1,h2,hn,h⟩:=h;by_cases h0:st= []
 ·subst h0;cases a with
  | none=>exact(Any.slices_Clone_int_nil layClone 0 cap w).mono fun e w' ⟨he,hw⟩=>⟨_,he,rowAt_nil _ _,by rw[hw];exact Below.refl _ _⟩
  | some A=>exact(Any.slices_Clone_int_zero layClone A cap w).mono fun e w' ⟨v',he,ho,_,hb⟩=>⟨v',he,rowAt_owns ho,hb⟩
 ·obtain h | ⟨b,off,rfl,hc⟩:=h
  ·exact absurd h h0
  refine(Any.slices_Clone_int layClone b off st.length cap st w (Nat.le_refl _) (by omega) (fun j hj=>by rw[getD_at hj];exact hc j hj)).mono ?_;rintro e w' ⟨v',he,ho,_,hb⟩;rw[List.take_length] at ho;exact⟨v',he,rowAt_owns ho,hb⟩
def StepTold (w:World) (r:Option (List Int×Int)) (e:Ending) (w':World):Prop:=
 Below w.heap.size w w'∧match r with
 | none=>e=.returned (.tuple #[.slice none 0 0,.int .i64 0,.bool false])
 | some (st',n)=>∃v',e=.returned (.tuple #[v',.int .i64 n,.bool true])∧RowAt w' w.heap.size v' st'
set_option maxHeartbeats 1000000 in
theorem step_any (o k a b:Int) (st:List Int) (v:Value) (w:World) (hK:KnownAt w) (hv:HasInts w v st) (hrise:o=3→st.Pairwise (· ≤ ·)) (hlen:st.length≤100000) (hpos:0 < w.heap.size):
  Calls Tryz.prog 284 #[.int .i64 o,v,.int .i64 k,.int .i64 a,.int .i64 b] w fun e w'=>StepTold w (stepM o st k a b) e w':=by
 have HC:=hideIt (clone_any st v w hv hlen);have HA:Hid (∀v1 w1,RowAt w1 w.heap.size v1 st→Below w.heap.size w w1→Calls Tryz.prog 141 #[.int .i64 o,v1,(Opn.mk 0 0 k a b 0 0 0).agg] w1 fun e w'=>StepTold w (stepM o st k a b) e w'):=fun v1 w1 hr hb=>by
  refine(call_any o st ⟨0,0,k,a,b,0,0,0⟩ v1 w.heap.size w1 (hK.below hpos hb) hr hrise hlen hb.size (Nat.lt_of_lt_of_le hpos hb.size)).mono ?_;intro e w' ht;have hbel:∀{x:Value},w1.grownBy w' v1.ownBlock→Below w.heap.size w w':=fun hg=>hb.grown hg hb.size (fun k hk=>(hr.lt k hk).1)
  simp only[CallTold] at ht
  revert ht
  cases stepM o st k a b with
  | none=>exact fun ht=>⟨hbel (x:=v1) ht.2,ht.1⟩
  | some p=>exact fun⟨v',he,ht⟩=>⟨hbel (x:=v1) ht.grown,v',he,ht.row⟩
 unfold Opn.agg at HA;clear hK hv hrise;obtain⟨r,hr⟩:∃r,stepM o st k a b=r:=⟨_,rfl⟩;rw[hr] at HA ⊢;clear hr;cases r with
 | none=>
  go_enter Tryz.func284,Tryz.ntmps284
  go_wp2_with (first | (go_at_call 291;refine HC.out.mono ?_;rintro e w1 ⟨v1,rfl,hr1,hb1⟩;have HR1:=hideIt hr1;have HB1:=hideIt hb1;clear hr1 hb1) | (go_at_call 141;refine(HA.out _ _ HR1.out HB1.out).mono ?_;rintro e w2 ⟨hb2,rfl⟩;have HB2:=hideIt hb2;clear hb2))
  go_ret3
  exact⟨HB2.out,rfl⟩
 | some p=>
  obtain⟨st',n⟩:=p;go_enter Tryz.func284,Tryz.ntmps284
  go_wp2_with (first | (go_at_call 291;refine HC.out.mono ?_;rintro e w1 ⟨v1,rfl,hr1,hb1⟩;have HR1:=hideIt hr1;have HB1:=hideIt hb1;clear hr1 hb1) | (go_at_call 141;refine(HA.out _ _ HR1.out HB1.out).mono ?_;rintro e w2 ⟨hb2,v',rfl,hr2⟩;have HB2:=hideIt hb2;have HR2:=hideIt hr2;clear hb2 hr2))
  go_ret3
  exact⟨HB2.out,_,rfl,HR2.out⟩
open Go.RowKit
def putL (a:Int):List Int→List Int
 | []=> [a]
 | x::r=>if a < x then a::x::r else x::putL a r
theorem place_cons (x:Int) (r:List Int) (a:Int):placeOf (x::r) a=if x < a then placeOf r a+1 else placeOf r a:=by
 unfold placeOf;rw[List.countP_cons];by_cases h:x < a<;>simp[h]
theorem place_zero {st:List Int} {a:Int} (h:∀x∈st,a≤x):placeOf st a=0:=by
 unfold placeOf;rw[List.countP_eq_zero];intro x hx;have:=h x hx;simp;omega
theorem put_ins:∀{st:List Int} {a:Int},st.Pairwise (· < ·)→a∉st→putL a st=insL st (placeOf st a) a
 | [],a,_,_=>rfl
 | x::r,a,hs,ha=>by
  rw[List.pairwise_cons] at hs;have hx:a≠x:=fun e=>ha (by simp[e])
  have hr:a∉r:=fun e=>ha (by simp[e])
  unfold putL;by_cases h:a < x
  ·rw[if_pos h,place_zero (fun y hy=>by
    rcases List.mem_cons.1 hy with rfl | hy
    ·omega
    ·have:=hs.1 y hy;omega)]
   rfl
  ·rw[if_neg h,place_cons,if_pos (by omega),put_ins hs.2 hr];rfl
theorem filter_del:∀{st:List Int} {a:Int},st.Pairwise (· < ·)→a∈st→st.filter (fun x=>x != a)=delL st (placeOf st a)
 | [],a,_,ha=>by simp at ha
 | x::r,a,hs,ha=>by
  rw[List.pairwise_cons] at hs;by_cases h:x=a
  ·subst h;rw[place_zero (fun y hy=>by
    rcases List.mem_cons.1 hy with rfl | hy
    ·omega
    ·have:=hs.1 y hy;omega)]
   have:r.filter (fun y=>y != x)=r:=List.filter_eq_self.2 fun y hy=>by have:=hs.1 y hy;simp;omega
   simp[delL,this]
  ·have hr:a∈r:=by rcases List.mem_cons.1 ha with e | e;exact absurd e.symm h;exact e
   have hlt:x < a:=hs.1 a hr;rw[place_cons,if_pos hlt,List.filter_cons_of_pos (by simpa using h),filter_del hs.2 hr];rfl
theorem putL_rises:∀{st:List Int} {a:Int},st.Pairwise (· < ·)→a∉st→(putL a st).Pairwise (· < ·)
 | [],a,_,_=>by simp[putL]
 | x::r,a,hs,ha=>by
  have hx:a≠x:=fun e=>ha (by simp[e])
  have hr:a∉r:=fun e=>ha (by simp[e])
  have hs':=List.pairwise_cons.1 hs;unfold putL;by_cases h:a < x
  ·rw[if_pos h];refine List.pairwise_cons.2 ⟨fun y hy=>?_,hs⟩;rcases List.mem_cons.1 hy with rfl | hy
   ·exact h
   ·have:=hs'.1 y hy;omega
  ·rw[if_neg h];refine List.pairwise_cons.2 ⟨fun y hy=>?_,putL_rises hs'.2 hr⟩;have:∀(l:List Int),y∈putL a l→y=a∨y∈l:=by
    intro l
    induction l with
    | nil=>intro h;simpa [putL] using h
    | cons z l ih=>
     intro h;unfold putL at h
     split at h
     ·rcases List.mem_cons.1 h with h | h
      ·exact .inl h
      ·exact .inr h
     ·rcases List.mem_cons.1 h with h | h
      ·exact .inr (by simp[h])
      ·rcases ih h with h | h
       ·exact .inl h
       ·exact .inr (by simp[h])
   rcases this r hy with rfl | hy
   ·omega
   ·exact hs'.1 y hy
end Go.Proofs.YtjpklmighoondaaGreatDoor
