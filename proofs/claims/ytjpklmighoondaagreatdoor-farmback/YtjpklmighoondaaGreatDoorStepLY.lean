/-
  Package linear's step: walked.
  Package linear's visit: what it tells; its head walked.
-/
import Derived.Test.YtjpklmighoondaaGreatDoorDoWY
import Derived.Test.YtjpklmighoondaaGreatDoorSetBY
import Derived.Deep.QuietTactic
import Derived.BigQuiet
namespace Go.Proofs.YtjpklmighoondaaGreatDoor
open Go.RowKit
def StTold (p:Par) (w:World) (ord:List Nat) (S:Int→List Int) (n:Nat) (e:Ending) (w':World):Prop:=
 Below w.heap.size w w'∧match stepN p.sr S ord n with
 | none=>∃v,e=.returned (.tuple #[v,.bool false])
 | some st=>∃v,e=.returned (.tuple #[v,.bool true])∧RowAt w' w.heap.size v st
theorem waits_cell {p:Par} {w:World} (h:WaitsAt p w) {n:Nat} (hn:n < p.ops.length):∃Wb,p.wv=.slice (some ⟨Wb,0,none⟩) p.ops.length p.ops.length∧w.cell? ⟨Wb,n,none⟩=some (.int .u64 (maskN (waitL p.ops p.ah n))):=by
 obtain⟨Wb,cur,e1,_,_,e4⟩:=h;exact⟨Wb,e1,e4 n hn⟩
set_option maxRecDepth 100000 in
set_option maxHeartbeats 4000000 in
theorem step_lin (p:Par) (n q:Nat) (ord:List Nat) (S:Int→List Int) (vs:Nat→Value) (ov nv:Value) (ent:List (List UInt8)) (w:World) (h:SearchAt p w ord S vs ov nv ent)
  (hn:n < p.ops.length) (hlen:p.ops.length≤60) (hkq:(opN p.ops n).k=(q:Int)) (hq:q < 8) (hord:∀m∈ord,m < 60) (hrise:p.o=3→(S (q:Int)).Pairwise (· ≤ ·)) (hsl:(S (q:Int)).length≤100000):
  Calls Tryz.prog 267 #[.pointer (some ⟨p.B,0,none⟩),.int .i64 n] w fun e w'=>StTold p w ord S n e w':=by
 have hml:maskN ord < 18446744073709551616:=maskN_lt (fun m hm=>by have:=hord m hm;omega);have hwl:maskN (waitL p.ops p.ah n) < 18446744073709551616:=maskN_lt (fun m hm=>by have:=waitL_lt m hm;omega);obtain⟨Wb,hwv,hwc⟩:=waits_cell h.waits hn;have b0:w.cell? ⟨p.B,0,none⟩=some (.int .i64 p.o):=blk_cells h.blk 0;have b7:w.cell? ⟨p.B,7,none⟩=some (.int .u64 (maskN ord)):=blk_cells h.blk 7;have b4:w.cell? ⟨p.B,4,none⟩=some (.slice (some ⟨Wb,0,none⟩) p.ops.length p.ops.length):=by rw[←hwv];exact blk_cells h.blk 4
 have bq:w.cell? ⟨p.B,8+q,none⟩=some (vs q):=(blk_cells h.blk (8+q)).trans (blkA_vs _ _ _ _ _ _ hq);have HFR:=hideIt (free_all p.sr ord n);have HHAS:Hid (∀W,Calls Tryz.prog 82 #[.int .u64 (maskN ord),.int .i64 n] W fun e w'=>e=.returned (.bool (ord.contains n))∧w'=W):=hideIt (fun W=>by
  rw[←maskN_bit];exact has_any _ n W hml (by omega))
 have HCOV:Hid (∀W,Calls Tryz.prog 84 #[.int .u64 (maskN ord),.int .u64 (maskN (waitL p.ops p.ah n))] W fun e w'=>e=.returned (.bool ((waitL p.ops p.ah n).all ord.contains))∧w'=W):=hideIt (fun W=>by
  rw[←coversN_mask (fun m hm=>by have:=hord m hm;omega) (fun m hm=>by have:=waitL_lt m hm;omega)];exact covers_any _ _ W hml hwl)
 have n1:(0:Int)≤(n:Int):=by omega
 have n2:(n:Int) < (p.ops.length:Int):=by omega
 have q1:(0:Int)≤(q:Int):=by omega
 have q2:(q:Int) < 8:=by omega
 have HN:Hid (freeB p.sr ord n=false→∀w',Below w.heap.size w w'→StTold p w ord S n (.returned (.tuple #[.slice none 0 0,.bool false])) w'):=hideIt (fun hf w' hb=>by
  refine⟨hb,?_⟩;have:stepN p.sr S ord n=none:=by unfold stepN;rw[if_neg (by rw[hf];decide)]
  rw[this];exact⟨_,rfl⟩)
 cases h1:ord.contains n
 ·rw[h1] at HHAS HFR;cases h2:(waitL p.ops p.ah n).all ord.contains
  ·rw[h2] at HCOV;have HF:Hid (freeB p.sr ord n=false):=hideIt (by rw[←HFR.out];show (!false&&(waitL p.ops p.ah n).all ord.contains)=false;rw[h2];rfl);clear h1 h2;go_enter Tryz.func267,Tryz.ntmps267
   go_wp2_with fail
   go_quiet (first | (go_at_call 82;exact Calls.quiet_of_same (HHAS.out _)) | (go_at_call 84;exact Calls.quiet_of_same (HCOV.out _)))
   go_wp2;go_ret2;exact HN.out HF.out _ (below_drewN (Below.refl _ _) _)
  ·rw[h2] at HCOV;have HF:Hid (freeB p.sr ord n=true):=hideIt (by rw[←HFR.out];show (!false&&(waitL p.ops p.ah n).all ord.contains)=true;rw[h2];rfl);clear h1 h2;obtain⟨bo,offo,cap,hu,hbo,hop⟩:=ops_cell h.ops h.opsb hn;have b1:w.cell? ⟨p.B,1,none⟩=some (.slice (some ⟨bo,offo,none⟩) p.ops.length cap):=by rw[←hu];exact blk_cells h.blk 1
   obtain⟨c0,c1,c2,c3,c4,c5,c6,c7⟩:=hop w (Below.refl _ _);have hBl:p.B < w.heap.size:=lt_of_heap h.blk;rw[opN_at hn] at hkq;rw[hkq] at c1;have HOPN:=hideIt (opN_at hn)
   -- the call of Step
   have HC:Hid (∀W,Below w.heap.size w W→Calls Tryz.prog 284 #[.int .i64 p.o,vs q,.int .i64 p.ops[n].d,.int .i64 p.ops[n].a,.int .i64 p.ops[n].b] W fun e w'=>StepTold W (stepM p.o (S (q:Int)) p.ops[n].d p.ops[n].a p.ops[n].b) e w'):=hideIt (fun W hW=>
    step_any p.o p.ops[n].d p.ops[n].a p.ops[n].b (S (q:Int)) (vs q) W (h.known.below (by omega) hW) ((h.rows q hq).has.below hW) hrise hsl (by have:=hW.size;omega))
   have HT:Hid (tellN p.sr S n=match stepM p.o (S (q:Int)) p.ops[n].d p.ops[n].a p.ops[n].b with
     | none=>none
     | some (st,r)=>if decide (p.ops[n].e < 0)||p.ops[n].r==r then some st else none):=hideIt (by
    unfold tellN;show (match stepM p.o (S (opN p.ops n).k) (opN p.ops n).d (opN p.ops n).a (opN p.ops n).b with | none=>none | some (st,r)=>if decide ((opN p.ops n).e < 0)||(opN p.ops n).r==r then some st else none)=_;rw[opN_at hn,hkq])
   have HST:Hid (stepN p.sr S ord n=tellN p.sr S n):=hideIt (by unfold stepN;rw[if_pos HF.out]);have HALL:Hid (∀nq W0,w.drewN nq=W0→(W0.cell? ⟨p.B,0,none⟩=some (.int .i64 p.o)∧W0.cell? ⟨p.B,1,none⟩=some (.slice (some ⟨bo,offo,none⟩) p.ops.length cap)∧W0.cell? ⟨p.B,8+q,none⟩=some (vs q)∧W0.cell? ⟨bo,offo+n*8,none⟩=some (.int .i64 p.ops[n].p)∧W0.cell? ⟨bo,offo+n*8+1,none⟩=some (.int .i64 q)∧W0.cell? ⟨bo,offo+n*8+2,none⟩=some (.int .i64 p.ops[n].d)∧W0.cell? ⟨bo,offo+n*8+3,none⟩=some (.int .i64 p.ops[n].a)∧W0.cell? ⟨bo,offo+n*8+4,none⟩=some (.int .i64 p.ops[n].b)∧W0.cell? ⟨bo,offo+n*8+5,none⟩=some (.int .i64 p.ops[n].r)∧W0.cell? ⟨bo,offo+n*8+6,none⟩=some (.int .i64 p.ops[n].c)∧W0.cell? ⟨bo,offo+n*8+7,none⟩=some (.int .i64 p.ops[n].e))∧Below w.heap.size w W0∧W0.heap.size=w.heap.size):=hideIt (fun nq W0 e=>by
    subst e;exact⟨⟨b0,b1,bq,c0,c1,c2,c3,c4,c5,c6,c7⟩,below_drewN (Below.refl _ _) _,rfl⟩)
   clear hop hu hkq h hrise;cases hst:stepM p.o (S (q:Int)) p.ops[n].d p.ops[n].a p.ops[n].b with
   | none=>
    have HR:Hid (stepN p.sr S ord n=none):=hideIt (by rw[HST.out,HT.out,hst]);rw[hst] at HC;clear hst HT HST;go_enter Tryz.func267,Tryz.ntmps267
    go_wp2_with fail
    go_quiet (first | (go_at_call 82;exact Calls.quiet_of_same (HHAS.out _)) | (go_at_call 84;exact Calls.quiet_of_same (HCOV.out _)))
    generalize hW0:w.drewN nq=W0;obtain⟨⟨b0',b1',bq',c0',c1',c2',c3',c4',c5',c6',c7'⟩,hbW,hsW⟩:=HALL.out nq W0 hW0;have HW1:Hid (Below w.heap.size w (W0.alloc (.cells #[.int .i64 p.ops[n].p,.int .i64 q,.int .i64 p.ops[n].d,.int .i64 p.ops[n].a,.int .i64 p.ops[n].b,.int .i64 p.ops[n].r,.int .i64 p.ops[n].c,.int .i64 p.ops[n].e] 157)).drew):=hideIt ((hbW.alloc (by omega) _).drew);have HK2:Hid (∀w2,Below (W0.alloc (.cells #[.int .i64 p.ops[n].p,.int .i64 q,.int .i64 p.ops[n].d,.int .i64 p.ops[n].a,.int .i64 p.ops[n].b,.int .i64 p.ops[n].r,.int .i64 p.ops[n].c,.int .i64 p.ops[n].e] 157)).drew.heap.size (W0.alloc (.cells #[.int .i64 p.ops[n].p,.int .i64 q,.int .i64 p.ops[n].d,.int .i64 p.ops[n].a,.int .i64 p.ops[n].b,.int .i64 p.ops[n].r,.int .i64 p.ops[n].c,.int .i64 p.ops[n].e] 157)).drew w2→w2.cell? ⟨p.B,0,none⟩=some (.int .i64 p.o)∧w2.cell? ⟨p.B,8+q,none⟩=some (vs q)∧w2.cell? ⟨W0.heap.size,0,none⟩=some (.int .i64 p.ops[n].p)∧w2.cell? ⟨W0.heap.size,1,none⟩=some (.int .i64 q)∧w2.cell? ⟨W0.heap.size,2,none⟩=some (.int .i64 p.ops[n].d)∧w2.cell? ⟨W0.heap.size,3,none⟩=some (.int .i64 p.ops[n].a)∧w2.cell? ⟨W0.heap.size,4,none⟩=some (.int .i64 p.ops[n].b)∧w2.cell? ⟨W0.heap.size,5,none⟩=some (.int .i64 p.ops[n].r)∧w2.cell? ⟨W0.heap.size,6,none⟩=some (.int .i64 p.ops[n].c)∧w2.cell? ⟨W0.heap.size,7,none⟩=some (.int .i64 p.ops[n].e)∧Below w.heap.size w w2):=hideIt (fun w2 h2=>by
     have hW:∀a:Addr,a.block < W0.heap.size→w2.cell? a=W0.cell? a:=fun a ha=>(h2.cell (p:=a) (show a.block < (W0.alloc (.cells #[.int .i64 p.ops[n].p,.int .i64 q,.int .i64 p.ops[n].d,.int .i64 p.ops[n].a,.int .i64 p.ops[n].b,.int .i64 p.ops[n].r,.int .i64 p.ops[n].c,.int .i64 p.ops[n].e] 157)).heap.size by simp;omega)).trans (World.cell?_alloc_lt W0 _ a ha)
     have hN:∀i,w2.cell? ⟨W0.heap.size,i,none⟩=(W0.alloc (.cells #[.int .i64 p.ops[n].p,.int .i64 q,.int .i64 p.ops[n].d,.int .i64 p.ops[n].a,.int .i64 p.ops[n].b,.int .i64 p.ops[n].r,.int .i64 p.ops[n].c,.int .i64 p.ops[n].e] 157)).cell? ⟨W0.heap.size,i,none⟩:=fun i=>h2.cell (p:=⟨W0.heap.size,i,none⟩) (show W0.heap.size < (W0.alloc (.cells #[.int .i64 p.ops[n].p,.int .i64 q,.int .i64 p.ops[n].d,.int .i64 p.ops[n].a,.int .i64 p.ops[n].b,.int .i64 p.ops[n].r,.int .i64 p.ops[n].c,.int .i64 p.ops[n].e] 157)).heap.size by simp)
     refine⟨(hW _ (by show p.B < _;omega)).trans b0',(hW _ (by show p.B < _;omega)).trans bq',?_,?_,?_,?_,?_,?_,?_,?_,HW1.out.trans (h2.mono HW1.out.size)⟩;all_goals (rw[hN];simp))
    clear hW0 b0 b1 b7 b4 bq c0 c1 c2 c3 c4 c5 c6 c7 hwc hbW hsW;go_wp2_with fail
    go_region_held3 (fun w'=>w'.cell? ⟨p.B,0,none⟩=some (.int .i64 p.o)∧w'.cell? ⟨p.B,8+q,none⟩=some (vs q)∧w'.cell? ⟨W0.heap.size,0,none⟩=some (.int .i64 p.ops[n].p)∧w'.cell? ⟨W0.heap.size,1,none⟩=some (.int .i64 q)∧w'.cell? ⟨W0.heap.size,2,none⟩=some (.int .i64 p.ops[n].d)∧w'.cell? ⟨W0.heap.size,3,none⟩=some (.int .i64 p.ops[n].a)∧w'.cell? ⟨W0.heap.size,4,none⟩=some (.int .i64 p.ops[n].b)∧w'.cell? ⟨W0.heap.size,5,none⟩=some (.int .i64 p.ops[n].r)∧w'.cell? ⟨W0.heap.size,6,none⟩=some (.int .i64 p.ops[n].c)∧w'.cell? ⟨W0.heap.size,7,none⟩=some (.int .i64 p.ops[n].e)) (go_keep)
     (first | (go_at_call 284;refine(HC.out _ HW1.out).mono ?_;rintro e w2 ⟨hb2,rfl⟩;obtain⟨p0,pq,p1,p2,p3,p4,p5,p6,p7,p8,hb3⟩:=HK2.out w2 hb2;have HB3:=hideIt hb3;clear hb2 hb3))
    go_wp2_with fail
    go_quiet (fail)
    go_wp2;go_ret2;exact⟨below_drewN HB3.out _,by rw[HR.out];exact⟨_,rfl⟩⟩
   | some pr=>
    obtain⟨st,r⟩:=pr;cases he:decide (p.ops[n].e < 0)
    ·cases hz:(p.ops[n].r==r)
     ·have HR:Hid (stepN p.sr S ord n=none):=hideIt (by rw[HST.out,HT.out,hst];simp[he,hz]);rw[hst] at HC;clear hst HT HST;go_enter Tryz.func267,Tryz.ntmps267
      go_wp2_with fail
      go_quiet (first | (go_at_call 82;exact Calls.quiet_of_same (HHAS.out _)) | (go_at_call 84;exact Calls.quiet_of_same (HCOV.out _)))
      generalize hW0:w.drewN nq=W0;obtain⟨⟨b0',b1',bq',c0',c1',c2',c3',c4',c5',c6',c7'⟩,hbW,hsW⟩:=HALL.out nq W0 hW0;have HW1:Hid (Below w.heap.size w (W0.alloc (.cells #[.int .i64 p.ops[n].p,.int .i64 q,.int .i64 p.ops[n].d,.int .i64 p.ops[n].a,.int .i64 p.ops[n].b,.int .i64 p.ops[n].r,.int .i64 p.ops[n].c,.int .i64 p.ops[n].e] 157)).drew):=hideIt ((hbW.alloc (by omega) _).drew);have HK2:Hid (∀w2,Below (W0.alloc (.cells #[.int .i64 p.ops[n].p,.int .i64 q,.int .i64 p.ops[n].d,.int .i64 p.ops[n].a,.int .i64 p.ops[n].b,.int .i64 p.ops[n].r,.int .i64 p.ops[n].c,.int .i64 p.ops[n].e] 157)).drew.heap.size (W0.alloc (.cells #[.int .i64 p.ops[n].p,.int .i64 q,.int .i64 p.ops[n].d,.int .i64 p.ops[n].a,.int .i64 p.ops[n].b,.int .i64 p.ops[n].r,.int .i64 p.ops[n].c,.int .i64 p.ops[n].e] 157)).drew w2→w2.cell? ⟨p.B,0,none⟩=some (.int .i64 p.o)∧w2.cell? ⟨p.B,8+q,none⟩=some (vs q)∧w2.cell? ⟨W0.heap.size,0,none⟩=some (.int .i64 p.ops[n].p)∧w2.cell? ⟨W0.heap.size,1,none⟩=some (.int .i64 q)∧w2.cell? ⟨W0.heap.size,2,none⟩=some (.int .i64 p.ops[n].d)∧w2.cell? ⟨W0.heap.size,3,none⟩=some (.int .i64 p.ops[n].a)∧w2.cell? ⟨W0.heap.size,4,none⟩=some (.int .i64 p.ops[n].b)∧w2.cell? ⟨W0.heap.size,5,none⟩=some (.int .i64 p.ops[n].r)∧w2.cell? ⟨W0.heap.size,6,none⟩=some (.int .i64 p.ops[n].c)∧w2.cell? ⟨W0.heap.size,7,none⟩=some (.int .i64 p.ops[n].e)∧Below w.heap.size w w2):=hideIt (fun w2 h2=>by
       have hW:∀a:Addr,a.block < W0.heap.size→w2.cell? a=W0.cell? a:=fun a ha=>(h2.cell (p:=a) (show a.block < (W0.alloc (.cells #[.int .i64 p.ops[n].p,.int .i64 q,.int .i64 p.ops[n].d,.int .i64 p.ops[n].a,.int .i64 p.ops[n].b,.int .i64 p.ops[n].r,.int .i64 p.ops[n].c,.int .i64 p.ops[n].e] 157)).heap.size by simp;omega)).trans (World.cell?_alloc_lt W0 _ a ha)
       have hN:∀i,w2.cell? ⟨W0.heap.size,i,none⟩=(W0.alloc (.cells #[.int .i64 p.ops[n].p,.int .i64 q,.int .i64 p.ops[n].d,.int .i64 p.ops[n].a,.int .i64 p.ops[n].b,.int .i64 p.ops[n].r,.int .i64 p.ops[n].c,.int .i64 p.ops[n].e] 157)).cell? ⟨W0.heap.size,i,none⟩:=fun i=>h2.cell (p:=⟨W0.heap.size,i,none⟩) (show W0.heap.size < (W0.alloc (.cells #[.int .i64 p.ops[n].p,.int .i64 q,.int .i64 p.ops[n].d,.int .i64 p.ops[n].a,.int .i64 p.ops[n].b,.int .i64 p.ops[n].r,.int .i64 p.ops[n].c,.int .i64 p.ops[n].e] 157)).heap.size by simp)
       refine⟨(hW _ (by show p.B < _;omega)).trans b0',(hW _ (by show p.B < _;omega)).trans bq',?_,?_,?_,?_,?_,?_,?_,?_,HW1.out.trans (h2.mono HW1.out.size)⟩;all_goals (rw[hN];simp))
      clear hW0 b0 b1 b7 b4 bq c0 c1 c2 c3 c4 c5 c6 c7 hwc hbW hsW;go_wp2_with fail
      go_region_held3 (fun w'=>w'.cell? ⟨p.B,0,none⟩=some (.int .i64 p.o)∧w'.cell? ⟨p.B,8+q,none⟩=some (vs q)∧w'.cell? ⟨W0.heap.size,0,none⟩=some (.int .i64 p.ops[n].p)∧w'.cell? ⟨W0.heap.size,1,none⟩=some (.int .i64 q)∧w'.cell? ⟨W0.heap.size,2,none⟩=some (.int .i64 p.ops[n].d)∧w'.cell? ⟨W0.heap.size,3,none⟩=some (.int .i64 p.ops[n].a)∧w'.cell? ⟨W0.heap.size,4,none⟩=some (.int .i64 p.ops[n].b)∧w'.cell? ⟨W0.heap.size,5,none⟩=some (.int .i64 p.ops[n].r)∧w'.cell? ⟨W0.heap.size,6,none⟩=some (.int .i64 p.ops[n].c)∧w'.cell? ⟨W0.heap.size,7,none⟩=some (.int .i64 p.ops[n].e)) (go_keep)
       (first | (go_at_call 284;refine(HC.out _ HW1.out).mono ?_;rintro e w2 ⟨hb2,v2,rfl,hr2⟩;have HRW:=hideIt (hr2.base (base':=w.heap.size) HW1.out.size);clear hr2;obtain⟨p0,pq,p1,p2,p3,p4,p5,p6,p7,p8,hb3⟩:=HK2.out w2 hb2;have HB3:=hideIt hb3;clear hb2 hb3))
      go_wp2_with fail
      go_quiet (fail)
      go_wp2;go_ret2;exact⟨below_drewN HB3.out _,by rw[HR.out];exact⟨_,rfl⟩⟩
     ·have HR:Hid (stepN p.sr S ord n=some st):=hideIt (by rw[HST.out,HT.out,hst];simp[he,hz]);rw[hst] at HC;clear hst HT HST;go_enter Tryz.func267,Tryz.ntmps267
      go_wp2_with fail
      go_quiet (first | (go_at_call 82;exact Calls.quiet_of_same (HHAS.out _)) | (go_at_call 84;exact Calls.quiet_of_same (HCOV.out _)))
      generalize hW0:w.drewN nq=W0;obtain⟨⟨b0',b1',bq',c0',c1',c2',c3',c4',c5',c6',c7'⟩,hbW,hsW⟩:=HALL.out nq W0 hW0;have HW1:Hid (Below w.heap.size w (W0.alloc (.cells #[.int .i64 p.ops[n].p,.int .i64 q,.int .i64 p.ops[n].d,.int .i64 p.ops[n].a,.int .i64 p.ops[n].b,.int .i64 p.ops[n].r,.int .i64 p.ops[n].c,.int .i64 p.ops[n].e] 157)).drew):=hideIt ((hbW.alloc (by omega) _).drew);have HK2:Hid (∀w2,Below (W0.alloc (.cells #[.int .i64 p.ops[n].p,.int .i64 q,.int .i64 p.ops[n].d,.int .i64 p.ops[n].a,.int .i64 p.ops[n].b,.int .i64 p.ops[n].r,.int .i64 p.ops[n].c,.int .i64 p.ops[n].e] 157)).drew.heap.size (W0.alloc (.cells #[.int .i64 p.ops[n].p,.int .i64 q,.int .i64 p.ops[n].d,.int .i64 p.ops[n].a,.int .i64 p.ops[n].b,.int .i64 p.ops[n].r,.int .i64 p.ops[n].c,.int .i64 p.ops[n].e] 157)).drew w2→w2.cell? ⟨p.B,0,none⟩=some (.int .i64 p.o)∧w2.cell? ⟨p.B,8+q,none⟩=some (vs q)∧w2.cell? ⟨W0.heap.size,0,none⟩=some (.int .i64 p.ops[n].p)∧w2.cell? ⟨W0.heap.size,1,none⟩=some (.int .i64 q)∧w2.cell? ⟨W0.heap.size,2,none⟩=some (.int .i64 p.ops[n].d)∧w2.cell? ⟨W0.heap.size,3,none⟩=some (.int .i64 p.ops[n].a)∧w2.cell? ⟨W0.heap.size,4,none⟩=some (.int .i64 p.ops[n].b)∧w2.cell? ⟨W0.heap.size,5,none⟩=some (.int .i64 p.ops[n].r)∧w2.cell? ⟨W0.heap.size,6,none⟩=some (.int .i64 p.ops[n].c)∧w2.cell? ⟨W0.heap.size,7,none⟩=some (.int .i64 p.ops[n].e)∧Below w.heap.size w w2):=hideIt (fun w2 h2=>by
       have hW:∀a:Addr,a.block < W0.heap.size→w2.cell? a=W0.cell? a:=fun a ha=>(h2.cell (p:=a) (show a.block < (W0.alloc (.cells #[.int .i64 p.ops[n].p,.int .i64 q,.int .i64 p.ops[n].d,.int .i64 p.ops[n].a,.int .i64 p.ops[n].b,.int .i64 p.ops[n].r,.int .i64 p.ops[n].c,.int .i64 p.ops[n].e] 157)).heap.size by simp;omega)).trans (World.cell?_alloc_lt W0 _ a ha)
       have hN:∀i,w2.cell? ⟨W0.heap.size,i,none⟩=(W0.alloc (.cells #[.int .i64 p.ops[n].p,.int .i64 q,.int .i64 p.ops[n].d,.int .i64 p.ops[n].a,.int .i64 p.ops[n].b,.int .i64 p.ops[n].r,.int .i64 p.ops[n].c,.int .i64 p.ops[n].e] 157)).cell? ⟨W0.heap.size,i,none⟩:=fun i=>h2.cell (p:=⟨W0.heap.size,i,none⟩) (show W0.heap.size < (W0.alloc (.cells #[.int .i64 p.ops[n].p,.int .i64 q,.int .i64 p.ops[n].d,.int .i64 p.ops[n].a,.int .i64 p.ops[n].b,.int .i64 p.ops[n].r,.int .i64 p.ops[n].c,.int .i64 p.ops[n].e] 157)).heap.size by simp)
       refine⟨(hW _ (by show p.B < _;omega)).trans b0',(hW _ (by show p.B < _;omega)).trans bq',?_,?_,?_,?_,?_,?_,?_,?_,HW1.out.trans (h2.mono HW1.out.size)⟩;all_goals (rw[hN];simp))
      clear hW0 b0 b1 b7 b4 bq c0 c1 c2 c3 c4 c5 c6 c7 hwc hbW hsW;go_wp2_with fail
      go_region_held3 (fun w'=>w'.cell? ⟨p.B,0,none⟩=some (.int .i64 p.o)∧w'.cell? ⟨p.B,8+q,none⟩=some (vs q)∧w'.cell? ⟨W0.heap.size,0,none⟩=some (.int .i64 p.ops[n].p)∧w'.cell? ⟨W0.heap.size,1,none⟩=some (.int .i64 q)∧w'.cell? ⟨W0.heap.size,2,none⟩=some (.int .i64 p.ops[n].d)∧w'.cell? ⟨W0.heap.size,3,none⟩=some (.int .i64 p.ops[n].a)∧w'.cell? ⟨W0.heap.size,4,none⟩=some (.int .i64 p.ops[n].b)∧w'.cell? ⟨W0.heap.size,5,none⟩=some (.int .i64 p.ops[n].r)∧w'.cell? ⟨W0.heap.size,6,none⟩=some (.int .i64 p.ops[n].c)∧w'.cell? ⟨W0.heap.size,7,none⟩=some (.int .i64 p.ops[n].e)) (go_keep)
       (first | (go_at_call 284;refine(HC.out _ HW1.out).mono ?_;rintro e w2 ⟨hb2,v2,rfl,hr2⟩;have HRW:=hideIt (hr2.base (base':=w.heap.size) HW1.out.size);clear hr2;obtain⟨p0,pq,p1,p2,p3,p4,p5,p6,p7,p8,hb3⟩:=HK2.out w2 hb2;have HB3:=hideIt hb3;clear hb2 hb3))
      go_wp2_with fail
      go_quiet (fail)
      go_wp2;go_ret2;exact⟨below_drewN HB3.out _,by rw[HR.out];exact⟨_,rfl,HRW.out⟩⟩
    ·have HR:Hid (stepN p.sr S ord n=some st):=hideIt (by rw[HST.out,HT.out,hst];simp[he]);rw[hst] at HC;clear hst HT HST;go_enter Tryz.func267,Tryz.ntmps267
     go_wp2_with fail
     go_quiet (first | (go_at_call 82;exact Calls.quiet_of_same (HHAS.out _)) | (go_at_call 84;exact Calls.quiet_of_same (HCOV.out _)))
     generalize hW0:w.drewN nq=W0;obtain⟨⟨b0',b1',bq',c0',c1',c2',c3',c4',c5',c6',c7'⟩,hbW,hsW⟩:=HALL.out nq W0 hW0;have HW1:Hid (Below w.heap.size w (W0.alloc (.cells #[.int .i64 p.ops[n].p,.int .i64 q,.int .i64 p.ops[n].d,.int .i64 p.ops[n].a,.int .i64 p.ops[n].b,.int .i64 p.ops[n].r,.int .i64 p.ops[n].c,.int .i64 p.ops[n].e] 157)).drew):=hideIt ((hbW.alloc (by omega) _).drew);have HK2:Hid (∀w2,Below (W0.alloc (.cells #[.int .i64 p.ops[n].p,.int .i64 q,.int .i64 p.ops[n].d,.int .i64 p.ops[n].a,.int .i64 p.ops[n].b,.int .i64 p.ops[n].r,.int .i64 p.ops[n].c,.int .i64 p.ops[n].e] 157)).drew.heap.size (W0.alloc (.cells #[.int .i64 p.ops[n].p,.int .i64 q,.int .i64 p.ops[n].d,.int .i64 p.ops[n].a,.int .i64 p.ops[n].b,.int .i64 p.ops[n].r,.int .i64 p.ops[n].c,.int .i64 p.ops[n].e] 157)).drew w2→w2.cell? ⟨p.B,0,none⟩=some (.int .i64 p.o)∧w2.cell? ⟨p.B,8+q,none⟩=some (vs q)∧w2.cell? ⟨W0.heap.size,0,none⟩=some (.int .i64 p.ops[n].p)∧w2.cell? ⟨W0.heap.size,1,none⟩=some (.int .i64 q)∧w2.cell? ⟨W0.heap.size,2,none⟩=some (.int .i64 p.ops[n].d)∧w2.cell? ⟨W0.heap.size,3,none⟩=some (.int .i64 p.ops[n].a)∧w2.cell? ⟨W0.heap.size,4,none⟩=some (.int .i64 p.ops[n].b)∧w2.cell? ⟨W0.heap.size,5,none⟩=some (.int .i64 p.ops[n].r)∧w2.cell? ⟨W0.heap.size,6,none⟩=some (.int .i64 p.ops[n].c)∧w2.cell? ⟨W0.heap.size,7,none⟩=some (.int .i64 p.ops[n].e)∧Below w.heap.size w w2):=hideIt (fun w2 h2=>by
      have hW:∀a:Addr,a.block < W0.heap.size→w2.cell? a=W0.cell? a:=fun a ha=>(h2.cell (p:=a) (show a.block < (W0.alloc (.cells #[.int .i64 p.ops[n].p,.int .i64 q,.int .i64 p.ops[n].d,.int .i64 p.ops[n].a,.int .i64 p.ops[n].b,.int .i64 p.ops[n].r,.int .i64 p.ops[n].c,.int .i64 p.ops[n].e] 157)).heap.size by simp;omega)).trans (World.cell?_alloc_lt W0 _ a ha)
      have hN:∀i,w2.cell? ⟨W0.heap.size,i,none⟩=(W0.alloc (.cells #[.int .i64 p.ops[n].p,.int .i64 q,.int .i64 p.ops[n].d,.int .i64 p.ops[n].a,.int .i64 p.ops[n].b,.int .i64 p.ops[n].r,.int .i64 p.ops[n].c,.int .i64 p.ops[n].e] 157)).cell? ⟨W0.heap.size,i,none⟩:=fun i=>h2.cell (p:=⟨W0.heap.size,i,none⟩) (show W0.heap.size < (W0.alloc (.cells #[.int .i64 p.ops[n].p,.int .i64 q,.int .i64 p.ops[n].d,.int .i64 p.ops[n].a,.int .i64 p.ops[n].b,.int .i64 p.ops[n].r,.int .i64 p.ops[n].c,.int .i64 p.ops[n].e] 157)).heap.size by simp)
      refine⟨(hW _ (by show p.B < _;omega)).trans b0',(hW _ (by show p.B < _;omega)).trans bq',?_,?_,?_,?_,?_,?_,?_,?_,HW1.out.trans (h2.mono HW1.out.size)⟩;all_goals (rw[hN];simp))
     clear hW0 b0 b1 b7 b4 bq c0 c1 c2 c3 c4 c5 c6 c7 hwc hbW hsW;go_wp2_with fail
     go_region_held3 (fun w'=>w'.cell? ⟨p.B,0,none⟩=some (.int .i64 p.o)∧w'.cell? ⟨p.B,8+q,none⟩=some (vs q)∧w'.cell? ⟨W0.heap.size,0,none⟩=some (.int .i64 p.ops[n].p)∧w'.cell? ⟨W0.heap.size,1,none⟩=some (.int .i64 q)∧w'.cell? ⟨W0.heap.size,2,none⟩=some (.int .i64 p.ops[n].d)∧w'.cell? ⟨W0.heap.size,3,none⟩=some (.int .i64 p.ops[n].a)∧w'.cell? ⟨W0.heap.size,4,none⟩=some (.int .i64 p.ops[n].b)∧w'.cell? ⟨W0.heap.size,5,none⟩=some (.int .i64 p.ops[n].r)∧w'.cell? ⟨W0.heap.size,6,none⟩=some (.int .i64 p.ops[n].c)∧w'.cell? ⟨W0.heap.size,7,none⟩=some (.int .i64 p.ops[n].e)) (go_keep)
      (first | (go_at_call 284;refine(HC.out _ HW1.out).mono ?_;rintro e w2 ⟨hb2,v2,rfl,hr2⟩;have HRW:=hideIt (hr2.base (base':=w.heap.size) HW1.out.size);clear hr2;obtain⟨p0,pq,p1,p2,p3,p4,p5,p6,p7,p8,hb3⟩:=HK2.out w2 hb2;have HB3:=hideIt hb3;clear hb2 hb3))
     go_wp2_with fail
     go_quiet (fail)
     go_wp2;go_ret2;exact⟨below_drewN HB3.out _,by rw[HR.out];exact⟨_,rfl,HRW.out⟩⟩
 ·rw[h1] at HHAS HFR;have HF:Hid (freeB p.sr ord n=false):=hideIt (by rw[←HFR.out];rfl);clear h1;go_enter Tryz.func267,Tryz.ntmps267
  go_wp2_with fail
  go_quiet ((go_at_call 82;exact Calls.quiet_of_same (HHAS.out _)))
  go_wp2;go_ret2;exact HN.out HF.out _ (below_drewN (Below.refl _ _) _)
open Go.RowKit
def VTold (p:Par) (w:World) (ord:List Nat) (S:Int→List Int) (vs:Nat→Value) (ov:Value) (r:Res) (e:Ending) (w':World):Prop:=
 e=.returned (.int .i64 (r.code:Int))∧∃S' vs' ov' nv',SearchAt p w' r.ord S' vs' ov' nv' r.ent∧VFr p ov w ov' w'∧(r.code=2→r.ord=ord∧S'=S∧vs'=vs)
theorem SearchAt.grown {p:Par} {w w':World} {ord:List Nat} {S:Int→List Int} {vs:Nat→Value} {ov nv:Value} {ent:List (List UInt8)} (h:SearchAt p w ord S vs ov nv ent) (hg:w.grownBy w' none):SearchAt p w' ord S vs ov nv ent:=
 h.after (tch_grown hg (fun k e=>by cases e)) ((hg.block p.B (lt_of_heap h.blk) (by simp)).trans h.blk) (h.ordr.kept hg (Classical.em _)) (fun b hb=>.inl hb) h.rows h.sep
theorem grown_of_below {w w':World} (h:Below w.heap.size w w'):w.grownBy w' none:=⟨h.os,h.tape,h.output,h.size,fun k hk _=>h.block k hk⟩
theorem SearchAt.named {p:Par} {w w':World} {ord:List Nat} {S:Int→List Int} {vs:Nat→Value} {ov nv nv':Value} {ent:List (List UInt8)} {l:List UInt8} (h:SearchAt p w ord S vs ov nv ent) (hw:Wrote p.b0 w 0 [] l nv' w'):
  SearchAt p (w'.setCell ⟨p.B,17,none⟩ nv') ord S vs ov nv' ent∧(w'.setCell ⟨p.B,17,none⟩ nv').ownsRow p.b0 5 1 nv' (0+l.length) ([]++byteV l)∧VFr p ov w ov (w'.setCell ⟨p.B,17,none⟩ nv'):=by
 have hs:p.b0≤w.heap.size:=by have:=lt_of_heap h.blk;have:=h.b0B;omega
 have hf:=hw.fr;have key:∀(b:Nat) (c:Array Value) (t:TypeId),w.heap[b]?=some (Obj.cells c t (0,0))→t≠5→w'.heap[b]?=w.heap[b]?:=fun b c t hb ht=>hf.block b (lt_of_heap hb) (fun⟨_,c',fz,e⟩=>by rw[hb] at e;simp at e;exact ht e.2.1)
 have keyM:w'.heap[p.M]?=w.heap[p.M]?:=by
  obtain⟨es,clock,hm⟩:=h.set.isMap;exact hf.block p.M (lt_of_heap hm) (fun⟨_,c',fz,e⟩=>by rw[hm] at e;cases e)
 have hB:w'.heap[p.B]?=some (.cells (blkA p (maskN ord) vs ov nv) 272 (0,0)):=(key p.B _ 272 h.blk (by decide)).trans h.blk;have hset:∀b,b≠p.B→(w'.setCell ⟨p.B,17,none⟩ nv').heap[b]?=w'.heap[b]?:=fun b hb=>Below.heap_setCell _ _ _ _ hb
 have hv:VFr p ov w ov (w'.setCell ⟨p.B,17,none⟩ nv'):=(vfr_bfr hf).trans (vfr_set 17 _ (fun _ h=>.inl h));have hneB:∀(b:Nat) (c:Array Value) (t:TypeId),w.heap[b]?=some (Obj.cells c t (0,0))→t≠272→b≠p.B:=fun b c t hb ht e=>by rw[e,h.blk] at hb;simp at hb;exact ht hb.2.symm
 have hbel:=hv.below h.b0B h.b0M (fun b e=>(h.ordr.lt b e).1) hs;have hrow5:(w'.setCell ⟨p.B,17,none⟩ nv').ownsRow p.b0 5 1 nv' (0+l.length) ([]++byteV l):=ownsRow_same hw.row fun b hb=>hset b (fun e=>by
  obtain⟨_,_,cur,hc⟩:=ownsRow_block hw.row b hb;rw[e,hB] at hc;simp at hc)
 refine⟨⟨(blk_set hB 17 nv').trans (by rw[blkA_name]),fun k hk=>(h.rows k hk).same fun b hb=>?_,h.sep,ownsRow_same h.ordr fun b hb=>?_,⟨_,_,hrow5⟩,?_,?_,?_,h.opsb,?_,h.b0pos,h.b0B,h.b0M⟩,hrow5,hv⟩
 ·obtain⟨_,_,cur,hc⟩:=(h.rows k hk).block b hb;rw[hset b (hneB b cur 3 hc (by decide)),key b cur 3 hc (by decide)]
 ·obtain⟨_,_,cur,hc⟩:=ownsRow_block h.ordr b hb;rw[hset b (hneB b cur 3 hc (by decide)),key b cur 3 hc (by decide)]
 ·refine h.set.same ?_;rw[hset p.M (fun e=>by obtain⟨es,clock,hm⟩:=h.set.isMap;rw[e,h.blk] at hm;cases hm),keyM]
 ·exact hv.waits h.waits h.blkd h.set.isMap (fun b hb=>by obtain⟨_,_,cur,hc⟩:=ownsRow_block h.ordr b hb;exact⟨_,_,hc⟩)
 ·obtain⟨a,cap,e,hc,hm,ho⟩:=h.ops;refine⟨a,cap,e,hc,hm,?_⟩;rcases ho with ho | ⟨b,off,rfl,hlt,ho⟩
  ·exact .inl ho
  ·by_cases h0:p.ops= []
   ·exact .inl h0
   ·have hb0:b < p.b0:=h.opsb ⟨b,off,none⟩ _ _ e (List.length_pos_iff.2 h0);exact .inr ⟨b,off,rfl,Nat.lt_of_lt_of_le hlt hv.size,ho.below hb0 hbel⟩
 ·exact h.known.below h.b0pos hbel
theorem SearchAt.entered {p:Par} {w w':World} {ord:List Nat} {S:Int→List Int} {vs:Nat→Value} {ov nv:Value} {ent ent':List (List UInt8)} (h:SearchAt p w ord S vs ov nv ent) (hg:w.grownBy w' (some p.M)) (hs':SetS w' p.M ent'):
  SearchAt p w' ord S vs ov nv ent'∧VFr p ov w ov w':=by
 have hs:p.b0≤w.heap.size:=by have:=lt_of_heap h.blk;have:=h.b0B;omega
 have hv:VFr p ov w ov w':=vfr_map hg;have hbel:=hv.below h.b0B h.b0M (fun b e=>(h.ordr.lt b e).1) hs;obtain⟨es,clock,hm⟩:=h.set.isMap;have key:∀(b:Nat) (c:Array Value) (t:TypeId),w.heap[b]?=some (Obj.cells c t (0,0))→w'.heap[b]?=w.heap[b]?:=fun b c t hb=>hg.block b (lt_of_heap hb) (fun e=>by
  rw[Option.some.inj e,hm] at hb;cases hb)
 refine⟨⟨(key _ _ _ h.blk).trans h.blk,fun k hk=>(h.rows k hk).same fun b hb=>?_,h.sep,ownsRow_same h.ordr fun b hb=>?_,?_,hs',?_,?_,h.opsb,?_,h.b0pos,h.b0B,h.b0M⟩,hv⟩
 ·obtain⟨_,_,cur,hc⟩:=(h.rows k hk).block b hb;exact key b cur 3 hc
 ·obtain⟨_,_,cur,hc⟩:=ownsRow_block h.ordr b hb;exact key b cur 3 hc
 ·obtain⟨n,xs,hn⟩:=h.name;refine⟨n,xs,ownsRow_same hn fun b hb=>?_⟩;obtain⟨_,_,cur,hc⟩:=ownsRow_block hn b hb;exact key b cur 5 hc
 ·exact hv.waits h.waits h.blkd h.set.isMap (fun b hb=>by obtain⟨_,_,cur,hc⟩:=ownsRow_block h.ordr b hb;exact⟨_,_,hc⟩)
 ·obtain⟨a,cap,e,hc,hm,ho⟩:=h.ops;refine⟨a,cap,e,hc,hm,?_⟩;rcases ho with ho | ⟨b,off,rfl,hlt,ho⟩
  ·exact .inl ho
  ·by_cases h0:p.ops= []
   ·exact .inl h0
   ·have hb0:b < p.b0:=h.opsb ⟨b,off,none⟩ _ _ e (List.length_pos_iff.2 h0);exact .inr ⟨b,off,rfl,Nat.lt_of_lt_of_le hlt hv.size,ho.below hb0 hbel⟩
 ·exact h.known.below h.b0pos hbel
theorem name_cut {w:World} {base:Nat} {nv:Value} (h:∃n xs,w.ownsRow base 5 1 nv n xs):∃a n c,nv=.slice a n c∧n≤c∧c≤maxLen∧w.ownsRow base 5 1 (.slice a 0 c) 0 []:=by
 obtain⟨n,xs,_,⟨rfl,rfl⟩ | ⟨g,cap,cur,rfl,hb,hh,h1,h2,h3,h4⟩⟩:=h
 ·exact⟨none,0,0,rfl,Nat.le_refl _,by decide,World.ownsRow_nil _ _ _ _⟩
 ·exact⟨_,n,cap,rfl,h1,h2,by simp,.inr ⟨g,cap,cur,rfl,hb,hh,Nat.zero_le _,h2,h3,by simp⟩⟩
end Go.Proofs.YtjpklmighoondaaGreatDoor
