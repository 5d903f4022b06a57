/-
  Package linear's undo: walked.
  Package linear's step: walked.
-/
import Derived.Test.YtjpklmighoondaaGreatDoorDoWZ
import Derived.Test.YtjpklmighoondaaGreatDoorCallWZ
import Derived.Deep.QuietTactic
import Derived.BigQuiet
namespace Go.Proofs.YtjpklmighoondaaGreatDoor
open Go.RowKit
theorem order_pop {w:World} {base g cap:Nat} {ord:List Nat} {n:Nat} (h:w.ownsRow base 3 1 (.slice (some ⟨g,0,none⟩) (ord++ [n]).length cap) (ord++ [n]).length (ordV (ord++ [n]))):w.ownsRow base 3 1 (.slice (some ⟨g,0,none⟩) ord.length cap) ord.length (ordV ord):=by
 obtain⟨_,⟨h,_⟩ | ⟨g',cap',cur,e,hb,hh,h1,h2,h3,h4⟩⟩:=h
 ·cases h
 ·simp at e;obtain⟨rfl,rfl⟩:=e;refine⟨by simp[ordV],.inr ⟨g,cap,cur,rfl,hb,hh,by simp at h1;omega,h2,h3,?_⟩⟩;have:=congrArg (List.take ord.length) h4;rw[List.take_take] at this
  simpa [ordV] using this
theorem order_some {w:World} {base:Nat} {ov:Value} {ord:List Nat} {n:Nat} (h:w.ownsRow base 3 1 ov (ord++ [n]).length (ordV (ord++ [n]))):∃g cap,ov=.slice (some ⟨g,0,none⟩) (ord.length+1) cap∧ord.length+1≤cap∧cap≤maxLen:=by
 obtain⟨_,⟨_,h⟩ | ⟨g',cap',cur,e,hb,hh,h1,h2,h3,h4⟩⟩:=h
 ·simp at h
 ·exact⟨g',cap',by rw[e];simp,by simpa using h1,h2⟩
theorem andNot_bits {m q:Nat} (hm:m < 18446744073709551616) (hq:q < 18446744073709551616):bits .andNot .u64 (m:Int) (q:Int)=((m&&& (18446744073709551615 - q):Nat):Int):=u64_andNot_nat m q hm hq
set_option maxRecDepth 100000 in
set_option maxHeartbeats 4000000 in
theorem undo_any (p:Par) (n q:Nat) (ord:List Nat) (S:Int→List Int) (vs:Nat→Value) (ov nv nx:Value) (ent:List (List UInt8)) (st:List Int) (w:World) (h:SearchAt p w (ord++ [n]) S vs ov nv ent)
  (hn:n < p.ops.length) (hlen:p.ops.length≤60) (hkq:(opN p.ops n).k=(q:Int)) (hq:q < 8) (hord:∀m∈ord,m < 60) (hol:ord.length≤60) (hnot:n∉ord) (hnx:RowAt w p.b0 nx st) (hsep:∀b,nx.ownBlock=some b→ov.ownBlock≠some b):
  Calls Tryz.prog 269 #[.pointer (some ⟨p.B,0,none⟩),.int .i64 n,nx] w fun e w'=>DoTold p w ord (setK S (q:Int) st) (setV vs q nx) ov nv ent e w':=by
 have hml:maskN (ord++ [n]) < 18446744073709551616:=maskN_lt (fun m hm=>by
  rcases List.mem_append.1 hm with hm | hm
  ·have:=hord m hm;omega
  ·rw[List.mem_singleton.1 hm];omega)
 obtain⟨pw,hp,hcall⟩:=bit_call n (by omega);have HC:=hideIt hcall;have R1:Hid (bits .andNot .u64 (maskN (ord++ [n]):Int) (pw:Int)=(maskN ord:Int)):=hideIt (by
  rw[hp,andNot_bits hml (pow_lt64 (by omega)),andNot_bit (by omega) hnot (fun m hm=>by have:=hord m hm;omega)])
 have b7:w.cell? ⟨p.B,7,none⟩=some (.int .u64 (maskN (ord++ [n]))):=blk_cells h.blk 7;have f7:=blk_fz h.blk 7;obtain⟨bo,offo,cap,hu,hbo,hop⟩:=ops_cell h.ops h.opsb hn;obtain⟨i3,hi3,hz3,hs3,hb3⟩:=info_parts info3;obtain⟨na,nl,nc,rfl⟩:=hnx.slice;have HH:=hideIt h;have HU:=hideIt hu;have HX:=hideIt hnx;have HSP:=hideIt hsep;have HKQ:=hideIt hkq;rw[opN_at hn] at hkq
 -- behind the first region
 have h1:Hid (∀W1,W1=(w.setCell ⟨p.B,7,none⟩ (.int .u64 (bits .andNot .u64 (maskN (ord++ [n]):Int) (pw:Int)))).drew→(W1.heap[p.B]?=some (.cells (blkA p (maskN ord) vs ov nv) 272 (0,0))∧Tch (OwnT p ov) w W1)
   ∧(∀b,ov.ownBlock=some b→b≠p.B→W1.heap[b]?=w.heap[b]?)
   ∧W1.cell? ⟨p.B,1,none⟩=some (.slice (some ⟨bo,offo,none⟩) p.ops.length cap)∧W1.cell? ⟨bo,offo+n*8+1,none⟩=some (.int .i64 q)∧W1.frozen? ⟨p.B,8+q,none⟩=false∧∃x,W1.cell? ⟨p.B,8+q,none⟩=some x):=hideIt (fun W1 e=>by
  subst e;have hb:(w.setCell ⟨p.B,7,none⟩ (.int .u64 (bits .andNot .u64 (maskN (ord++ [n]):Int) (pw:Int)))).drew.heap[p.B]?=some (.cells (blkA p (maskN ord) vs ov nv) 272 (0,0)):=by
   rw[R1.out];exact(blk_set h.blk 7 _).trans (by rw[blkA_done])
  have hf:Tch (OwnT p ov) w (w.setCell ⟨p.B,7,none⟩ (.int .u64 (bits .andNot .u64 (maskN (ord++ [n]):Int) (pw:Int)))).drew:=(tch_set (a:=⟨p.B,7,none⟩) _ (.inl rfl)).drew;refine⟨⟨hb,hf⟩,fun b _ hne=>Below.heap_setCell _ _ _ _ hne,?_,?_,blk_fz hb _,vs q,?_⟩
  ·rw[blk_cells hb 1];show some p.u=_;rw[hu]
  ·have:=(hop _ ((vfr_tch hf (fun _ h=>.inl h)).below h.b0B h.b0M (fun b e=>(h.ordr.lt b e).1) (by have:=lt_of_heap h.blk;have:=h.b0B;omega))).2.1;rw[hkq] at this;exact this
  ·rw[blk_cells hb,blkA_vs _ _ _ _ _ _ hq])
 clear hp hcall hop hu hnx hkq h hsep;have n1:(0:Int)≤(n:Int):=by omega
 have n2:(n:Int) < (p.ops.length:Int):=by omega
 have q1:(0:Int)≤(q:Int):=by omega
 have q2:(q:Int) < 8:=by omega
 go_enter Tryz.func269,Tryz.ntmps269
 go_wp2_with fail
 go_region_with (go_at_call 83;refine(HC.out _).mono ?_;rintro e w' ⟨rfl,rfl⟩)
 all_goals
  generalize hW1:(w.setCell ⟨p.B,7,none⟩ (.int .u64 (bits .andNot .u64 (maskN (ord++ [n]):Int) (pw:Int)))).drew=W1;obtain⟨HB1,HO1,c1,c2,c3,x,c4⟩:=h1.out W1 hW1.symm;have HB1:=hideIt HB1;have HO1:=hideIt HO1;clear hW1 b7 f7;go_wp2_with fail
  go_region
 all_goals
  generalize hW2:(W1.setCell ⟨p.B,8+q,none⟩ (.slice na nl nc)).drew=W2;have hB2:W2.heap[p.B]?=some (.cells (blkA p (maskN ord) (setV vs q (.slice na nl nc)) ov nv) 272 (0,0)):=by
   rw[←hW2];exact(blk_set HB1.out.1 (8+q) _).trans (by rw[blkA_key _ _ _ _ _ _ hq])
  have hT2:Tch (OwnT p ov) w W2:=by
   rw[←hW2];exact HB1.out.2.trans (tch_set (a:=⟨p.B,8+q,none⟩) _ (.inl rfl)).drew
  obtain⟨g,oc,hov,hoc,hom⟩:=order_some HH.out.ordr;have hne:g≠p.B:=fun e=>by
   obtain⟨_,_,cur,hc⟩:=ownsRow_block HH.out.ordr g (by rw[hov];rfl);rw[e,HH.out.blk] at hc;simp at hc
  have hO2:W2.ownsRow p.b0 3 1 (.slice (some ⟨g,0,none⟩) ord.length oc) ord.length (ordV ord):=by
   have h0:=HH.out.ordr;rw[hov] at h0;refine ownsRow_same (order_pop (cap:=oc) (by simpa using h0)) fun b hb=>?_
   obtain rfl:g=b:=by simpa [Value.ownBlock] using hb
   rw[←hW2];rw[show (W1.setCell ⟨p.B,8+q,none⟩ (.slice na nl nc)).drew.heap[g]?=W1.heap[g]? from Below.heap_setCell _ _ _ _ hne];exact HO1.out g (by rw[hov];rfl) hne
  have c5:W2.cell? ⟨p.B,16,none⟩=some (.slice (some ⟨g,0,none⟩) (ord.length+1) oc):=by rw[←hov];exact blk_cells hB2 16
  have f5:=blk_fz hB2 16;have HF:Hid (∀W3,W3=(W2.setCell ⟨p.B,16,none⟩ (.slice (some ⟨g,0,none⟩) ord.length oc)).drew→DoTold p w ord (setK S (q:Int) st) (setV vs q (.slice na nl nc)) ov nv ent (.returned (.tuple #[])) W3):=hideIt (fun W3 e=>by
   subst e;have hT3:Tch (OwnT p ov) w (W2.setCell ⟨p.B,16,none⟩ (.slice (some ⟨g,0,none⟩) ord.length oc)).drew:=hT2.trans (tch_set (a:=⟨p.B,16,none⟩) _ (.inl rfl)).drew;have hon:∀b,(Value.slice (some ⟨g,0,none⟩) ord.length oc).ownBlock=some b→ov.ownBlock=some b∨w.heap.size≤b:=fun b hb=>by
    rw[hov];exact .inl hb
   exact⟨.slice (some ⟨g,0,none⟩) ord.length oc,rfl,
    HH.out.after hT3 ((blk_set hB2 16 _).trans (by rw[blkA_ord])) (ownsRow_same hO2 fun b hb=>Below.heap_setCell _ _ _ _ (fun e=>hne (by
     obtain rfl:g=b:=by simpa [Value.ownBlock] using hb
     exact e))) hon (rows_set HH.out.rows HX.out) (sep_set HH.out.sep HSP.out),vfr_tch hT3 hon⟩)
  clear hW2 hB2 hT2 hO2 c1 c2 c3 c4 hov;unfold maxLen at hom;have l1:IntKind.i64.wrap (((ord.length+1:Nat):Int) - 1)=(ord.length:Int):=by rw[IntKind.wrap_i64];omega
  have l2:((ord.length+1:Nat):Int) - 1=(ord.length:Int):=by omega
  go_wp2_with fail
  go_region
  all_goals
   go_wp2
   go_end0
   exact HF.out _ rfl
open Go.RowKit
def StTold (p:Par) (w:World) (ord:List Nat) (S:Int→List Int) (n:Nat) (e:Ending) (w':World):Prop:=
 Below w.heap.size w w'∧match stepN p.sr S ord n with
 | none=>∃v,e=.returned (.tuple #[v,.bool false])
 | some st=>∃v,e=.returned (.tuple #[v,.bool true])∧RowAt w' w.heap.size v st
theorem waits_cell {p:Par} {w:World} (h:WaitsAt p w) {n:Nat} (hn:n < p.ops.length):∃Wb,p.wv=.slice (some ⟨Wb,0,none⟩) p.ops.length p.ops.length∧w.cell? ⟨Wb,n,none⟩=some (.int .u64 (maskN (waitL p.ops p.ah n))):=by
 obtain⟨Wb,cur,e1,_,_,e4⟩:=h;exact⟨Wb,e1,e4 n hn⟩
set_option maxRecDepth 100000 in
set_option maxHeartbeats 4000000 in
theorem step_lin (p:Par) (n q:Nat) (ord:List Nat) (S:Int→List Int) (vs:Nat→Value) (ov nv:Value) (ent:List (List UInt8)) (w:World) (h:SearchAt p w ord S vs ov nv ent)
  (hn:n < p.ops.length) (hlen:p.ops.length≤60) (hkq:(opN p.ops n).k=(q:Int)) (hq:q < 8) (hord:∀m∈ord,m < 60) (hrise:p.o=3→(S (q:Int)).Pairwise (· ≤ ·)) (hsl:(S (q:Int)).length≤100000):
  Calls Tryz.prog 267 #[.pointer (some ⟨p.B,0,none⟩),.int .i64 n] w fun e w'=>StTold p w ord S n e w':=by
 have hml:maskN ord < 18446744073709551616:=maskN_lt (fun m hm=>by have:=hord m hm;omega);have hwl:maskN (waitL p.ops p.ah n) < 18446744073709551616:=maskN_lt (fun m hm=>by have:=waitL_lt m hm;omega);obtain⟨Wb,hwv,hwc⟩:=waits_cell h.waits hn;have b0:w.cell? ⟨p.B,0,none⟩=some (.int .i64 p.o):=blk_cells h.blk 0;have b7:w.cell? ⟨p.B,7,none⟩=some (.int .u64 (maskN ord)):=blk_cells h.blk 7;have b4:w.cell? ⟨p.B,4,none⟩=some (.slice (some ⟨Wb,0,none⟩) p.ops.length p.ops.length):=by rw[←hwv];exact blk_cells h.blk 4
 have bq:w.cell? ⟨p.B,8+q,none⟩=some (vs q):=(blk_cells h.blk (8+q)).trans (blkA_vs _ _ _ _ _ _ hq);have HFR:=hideIt (free_all p.sr ord n);have HHAS:Hid (∀W,Calls Tryz.prog 82 #[.int .u64 (maskN ord),.int .i64 n] W fun e w'=>e=.returned (.bool (ord.contains n))∧w'=W):=hideIt (fun W=>by
  rw[←maskN_bit];exact has_any _ n W hml (by omega))
 have HCOV:Hid (∀W,Calls Tryz.prog 84 #[.int .u64 (maskN ord),.int .u64 (maskN (waitL p.ops p.ah n))] W fun e w'=>e=.returned (.bool ((waitL p.ops p.ah n).all ord.contains))∧w'=W):=hideIt (fun W=>by
  rw[←coversN_mask (fun m hm=>by have:=hord m hm;omega) (fun m hm=>by have:=waitL_lt m hm;omega)];exact covers_any _ _ W hml hwl)
 have n1:(0:Int)≤(n:Int):=by omega
 have n2:(n:Int) < (p.ops.length:Int):=by omega
 have q1:(0:Int)≤(q:Int):=by omega
 have q2:(q:Int) < 8:=by omega
 have HN:Hid (freeB p.sr ord n=false→∀w',Below w.heap.size w w'→StTold p w ord S n (.returned (.tuple #[.slice none 0 0,.bool false])) w'):=hideIt (fun hf w' hb=>by
  refine⟨hb,?_⟩;have:stepN p.sr S ord n=none:=by unfold stepN;rw[if_neg (by rw[hf];decide)]
  rw[this];exact⟨_,rfl⟩)
 cases h1:ord.contains n
 ·rw[h1] at HHAS HFR;cases h2:(waitL p.ops p.ah n).all ord.contains
  ·rw[h2] at HCOV;have HF:Hid (freeB p.sr ord n=false):=hideIt (by rw[←HFR.out];show (!false&&(waitL p.ops p.ah n).all ord.contains)=false;rw[h2];rfl);clear h1 h2;go_enter Tryz.func267,Tryz.ntmps267
   go_wp2_with fail
   go_quiet (first | (go_at_call 82;exact Calls.quiet_of_same (HHAS.out _)) | (go_at_call 84;exact Calls.quiet_of_same (HCOV.out _)))
   go_wp2;go_ret2;exact HN.out HF.out _ (below_drewN (Below.refl _ _) _)
  ·rw[h2] at HCOV;have HF:Hid (freeB p.sr ord n=true):=hideIt (by rw[←HFR.out];show (!false&&(waitL p.ops p.ah n).all ord.contains)=true;rw[h2];rfl);clear h1 h2;obtain⟨bo,offo,cap,hu,hbo,hop⟩:=ops_cell h.ops h.opsb hn;have b1:w.cell? ⟨p.B,1,none⟩=some (.slice (some ⟨bo,offo,none⟩) p.ops.length cap):=by rw[←hu];exact blk_cells h.blk 1
   obtain⟨c0,c1,c2,c3,c4,c5,c6,c7⟩:=hop w (Below.refl _ _);have hBl:p.B < w.heap.size:=lt_of_heap h.blk;rw[opN_at hn] at hkq;rw[hkq] at c1;have HOPN:=hideIt (opN_at hn)
   -- the call of Step
   have HC:Hid (∀W,Below w.heap.size w W→Calls Tryz.prog 284 #[.int .i64 p.o,vs q,.int .i64 p.ops[n].d,.int .i64 p.ops[n].a,.int .i64 p.ops[n].b] W fun e w'=>StepTold W (stepM p.o (S (q:Int)) p.ops[n].d p.ops[n].a p.ops[n].b) e w'):=hideIt (fun W hW=>
    step_any p.o p.ops[n].d p.ops[n].a p.ops[n].b (S (q:Int)) (vs q) W (h.known.below (by omega) hW) ((h.rows q hq).has.below hW) hrise hsl (by have:=hW.size;omega))
   have HT:Hid (tellN p.sr S n=match stepM p.o (S (q:Int)) p.ops[n].d p.ops[n].a p.ops[n].b with
     | none=>none
     | some (st,r)=>if decide (p.ops[n].e < 0)||p.ops[n].r==r then some st else none):=hideIt (by
    unfold tellN;show (match stepM p.o (S (opN p.ops n).k) (opN p.ops n).d (opN p.ops n).a (opN p.ops n).b with | none=>none | some (st,r)=>if decide ((opN p.ops n).e < 0)||(opN p.ops n).r==r then some st else none)=_;rw[opN_at hn,hkq])
   have HST:Hid (stepN p.sr S ord n=tellN p.sr S n):=hideIt (by unfold stepN;rw[if_pos HF.out]);have HALL:Hid (∀nq W0,w.drewN nq=W0→(W0.cell? ⟨p.B,0,none⟩=some (.int .i64 p.o)∧W0.cell? ⟨p.B,1,none⟩=some (.slice (some ⟨bo,offo,none⟩) p.ops.length cap)∧W0.cell? ⟨p.B,8+q,none⟩=some (vs q)∧W0.cell? ⟨bo,offo+n*8,none⟩=some (.int .i64 p.ops[n].p)∧W0.cell? ⟨bo,offo+n*8+1,none⟩=some (.int .i64 q)∧W0.cell? ⟨bo,offo+n*8+2,none⟩=some (.int .i64 p.ops[n].d)∧W0.cell? ⟨bo,offo+n*8+3,none⟩=some (.int .i64 p.ops[n].a)∧W0.cell? ⟨bo,offo+n*8+4,none⟩=some (.int .i64 p.ops[n].b)∧W0.cell? ⟨bo,offo+n*8+5,none⟩=some (.int .i64 p.ops[n].r)∧W0.cell? ⟨bo,offo+n*8+6,none⟩=some (.int .i64 p.ops[n].c)∧W0.cell? ⟨bo,offo+n*8+7,none⟩=some (.int .i64 p.ops[n].e))∧Below w.heap.size w W0∧W0.heap.size=w.heap.size):=hideIt (fun nq W0 e=>by
    subst e;exact⟨⟨b0,b1,bq,c0,c1,c2,c3,c4,c5,c6,c7⟩,below_drewN (Below.refl _ _) _,rfl⟩)
   clear hop hu hkq h hrise;cases hst:stepM p.o (S (q:Int)) p.ops[n].d p.ops[n].a p.ops[n].b with
   | none=>
    have HR:Hid (stepN p.sr S ord n=none):=hideIt (by rw[HST.out,HT.out,hst]);rw[hst] at HC;clear hst HT HST;go_enter Tryz.func267,Tryz.ntmps267
    go_wp2_with fail
    go_quiet (first | (go_at_call 82;exact Calls.quiet_of_same (HHAS.out _)) | (go_at_call 84;exact Calls.quiet_of_same (HCOV.out _)))
    generalize hW0:w.drewN nq=W0;obtain⟨⟨b0',b1',bq',c0',c1',c2',c3',c4',c5',c6',c7'⟩,hbW,hsW⟩:=HALL.out nq W0 hW0;have HW1:Hid (Below w.heap.size w (W0.alloc (.cells #[.int .i64 p.ops[n].p,.int .i64 q,.int .i64 p.ops[n].d,.int .i64 p.ops[n].a,.int .i64 p.ops[n].b,.int .i64 p.ops[n].r,.int .i64 p.ops[n].c,.int .i64 p.ops[n].e] 157)).drew):=hideIt ((hbW.alloc (by omega) _).drew);have HK2:Hid (∀w2,Below (W0.alloc (.cells #[.int .i64 p.ops[n].p,.int .i64 q,.int .i64 p.ops[n].d,.int .i64 p.ops[n].a,.int .i64 p.ops[n].b,.int .i64 p.ops[n].r,.int .i64 p.ops[n].c,.int .i64 p.ops[n].e] 157)).drew.heap.size (W0.alloc (.cells #[.int .i64 p.ops[n].p,.int .i64 q,.int .i64 p.ops[n].d,.int .i64 p.ops[n].a,.int .i64 p.ops[n].b,.int .i64 p.ops[n].r,.int .i64 p.ops[n].c,.int .i64 p.ops[n].e] 157)).drew w2→w2.cell? ⟨p.B,0,none⟩=some (.int .i64 p.o)∧w2.cell? ⟨p.B,8+q,none⟩=some (vs q)∧w2.cell? ⟨W0.heap.size,0,none⟩=some (.int .i64 p.ops[n].p)∧w2.cell? ⟨W0.heap.size,1,none⟩=some (.int .i64 q)∧w2.cell? ⟨W0.heap.size,2,none⟩=some (.int .i64 p.ops[n].d)∧w2.cell? ⟨W0.heap.size,3,none⟩=some (.int .i64 p.ops[n].a)∧w2.cell? ⟨W0.heap.size,4,none⟩=some (.int .i64 p.ops[n].b)∧w2.cell? ⟨W0.heap.size,5,none⟩=some (.int .i64 p.ops[n].r)∧w2.cell? ⟨W0.heap.size,6,none⟩=some (.int .i64 p.ops[n].c)∧w2.cell? ⟨W0.heap.size,7,none⟩=some (.int .i64 p.ops[n].e)∧Below w.heap.size w w2):=hideIt (fun w2 h2=>by
     have hW:∀a:Addr,a.block < W0.heap.size→w2.cell? a=W0.cell? a:=fun a ha=>(h2.cell (p:=a) (show a.block < (W0.alloc (.cells #[.int .i64 p.ops[n].p,.int .i64 q,.int .i64 p.ops[n].d,.int .i64 p.ops[n].a,.int .i64 p.ops[n].b,.int .i64 p.ops[n].r,.int .i64 p.ops[n].c,.int .i64 p.ops[n].e] 157)).heap.size by simp;omega)).trans (World.cell?_alloc_lt W0 _ a ha)
     have hN:∀i,w2.cell? ⟨W0.heap.size,i,none⟩=(W0.alloc (.cells #[.int .i64 p.ops[n].p,.int .i64 q,.int .i64 p.ops[n].d,.int .i64 p.ops[n].a,.int .i64 p.ops[n].b,.int .i64 p.ops[n].r,.int .i64 p.ops[n].c,.int .i64 p.ops[n].e] 157)).cell? ⟨W0.heap.size,i,none⟩:=fun i=>h2.cell (p:=⟨W0.heap.size,i,none⟩) (show W0.heap.size < (W0.alloc (.cells #[.int .i64 p.ops[n].p,.int .i64 q,.int .i64 p.ops[n].d,.int .i64 p.ops[n].a,.int .i64 p.ops[n].b,.int .i64 p.ops[n].r,.int .i64 p.ops[n].c,.int .i64 p.ops[n].e] 157)).heap.size by simp)
     refine⟨(hW _ (by show p.B < _;omega)).trans b0',(hW _ (by show p.B < _;omega)).trans bq',?_,?_,?_,?_,?_,?_,?_,?_,HW1.out.trans (h2.mono HW1.out.size)⟩;all_goals (rw[hN];simp))
    clear hW0 b0 b1 b7 b4 bq c0 c1 c2 c3 c4 c5 c6 c7 hwc hbW hsW;go_wp2_with fail
    go_region_held3 (fun w'=>w'.cell? ⟨p.B,0,none⟩=some (.int .i64 p.o)∧w'.cell? ⟨p.B,8+q,none⟩=some (vs q)∧w'.cell? ⟨W0.heap.size,0,none⟩=some (.int .i64 p.ops[n].p)∧w'.cell? ⟨W0.heap.size,1,none⟩=some (.int .i64 q)∧w'.cell? ⟨W0.heap.size,2,none⟩=some (.int .i64 p.ops[n].d)∧w'.cell? ⟨W0.heap.size,3,none⟩=some (.int .i64 p.ops[n].a)∧w'.cell? ⟨W0.heap.size,4,none⟩=some (.int .i64 p.ops[n].b)∧w'.cell? ⟨W0.heap.size,5,none⟩=some (.int .i64 p.ops[n].r)∧w'.cell? ⟨W0.heap.size,6,none⟩=some (.int .i64 p.ops[n].c)∧w'.cell? ⟨W0.heap.size,7,none⟩=some (.int .i64 p.ops[n].e)) (go_keep)
     (first | (go_at_call 284;refine(HC.out _ HW1.out).mono ?_;rintro e w2 ⟨hb2,rfl⟩;obtain⟨p0,pq,p1,p2,p3,p4,p5,p6,p7,p8,hb3⟩:=HK2.out w2 hb2;have HB3:=hideIt hb3;clear hb2 hb3))
    go_wp2_with fail
    go_quiet (fail)
    go_wp2;go_ret2;exact⟨below_drewN HB3.out _,by rw[HR.out];exact⟨_,rfl⟩⟩
   | some pr=>
    obtain⟨st,r⟩:=pr;cases he:decide (p.ops[n].e < 0)
    ·cases hz:(p.ops[n].r==r)
     ·have HR:Hid (stepN p.sr S ord n=none):=hideIt (by rw[HST.out,HT.out,hst];simp[he,hz]);rw[hst] at HC;clear hst HT HST;go_enter Tryz.func267,Tryz.ntmps267
      go_wp2_with fail
      go_quiet (first | (go_at_call 82;exact Calls.quiet_of_same (HHAS.out _)) | (go_at_call 84;exact Calls.quiet_of_same (HCOV.out _)))
      generalize hW0:w.drewN nq=W0;obtain⟨⟨b0',b1',bq',c0',c1',c2',c3',c4',c5',c6',c7'⟩,hbW,hsW⟩:=HALL.out nq W0 hW0;have HW1:Hid (Below w.heap.size w (W0.alloc (.cells #[.int .i64 p.ops[n].p,.int .i64 q,.int .i64 p.ops[n].d,.int .i64 p.ops[n].a,.int .i64 p.ops[n].b,.int .i64 p.ops[n].r,.int .i64 p.ops[n].c,.int .i64 p.ops[n].e] 157)).drew):=hideIt ((hbW.alloc (by omega) _).drew);have HK2:Hid (∀w2,Below (W0.alloc (.cells #[.int .i64 p.ops[n].p,.int .i64 q,.int .i64 p.ops[n].d,.int .i64 p.ops[n].a,.int .i64 p.ops[n].b,.int .i64 p.ops[n].r,.int .i64 p.ops[n].c,.int .i64 p.ops[n].e] 157)).drew.heap.size (W0.alloc (.cells #[.int .i64 p.ops[n].p,.int .i64 q,.int .i64 p.ops[n].d,.int .i64 p.ops[n].a,.int .i64 p.ops[n].b,.int .i64 p.ops[n].r,.int .i64 p.ops[n].c,.int .i64 p.ops[n].e] 157)).drew w2→w2.cell? ⟨p.B,0,none⟩=some (.int .i64 p.o)∧w2.cell? ⟨p.B,8+q,none⟩=some (vs q)∧w2.cell? ⟨W0.heap.size,0,none⟩=some (.int .i64 p.ops[n].p)∧w2.cell? ⟨W0.heap.size,1,none⟩=some (.int .i64 q)∧w2.cell? ⟨W0.heap.size,2,none⟩=some (.int .i64 p.ops[n].d)∧w2.cell? ⟨W0.heap.size,3,none⟩=some (.int .i64 p.ops[n].a)∧w2.cell? ⟨W0.heap.size,4,none⟩=some (.int .i64 p.ops[n].b)∧w2.cell? ⟨W0.heap.size,5,none⟩=some (.int .i64 p.ops[n].r)∧w2.cell? ⟨W0.heap.size,6,none⟩=some (.int .i64 p.ops[n].c)∧w2.cell? ⟨W0.heap.size,7,none⟩=some (.int .i64 p.ops[n].e)∧Below w.heap.size w w2):=hideIt (fun w2 h2=>by
       have hW:∀a:Addr,a.block < W0.heap.size→w2.cell? a=W0.cell? a:=fun a ha=>(h2.cell (p:=a) (show a.block < (W0.alloc (.cells #[.int .i64 p.ops[n].p,.int .i64 q,.int .i64 p.ops[n].d,.int .i64 p.ops[n].a,.int .i64 p.ops[n].b,.int .i64 p.ops[n].r,.int .i64 p.ops[n].c,.int .i64 p.ops[n].e] 157)).heap.size by simp;omega)).trans (World.cell?_alloc_lt W0 _ a ha)
       have hN:∀i,w2.cell? ⟨W0.heap.size,i,none⟩=(W0.alloc (.cells #[.int .i64 p.ops[n].p,.int .i64 q,.int .i64 p.ops[n].d,.int .i64 p.ops[n].a,.int .i64 p.ops[n].b,.int .i64 p.ops[n].r,.int .i64 p.ops[n].c,.int .i64 p.ops[n].e] 157)).cell? ⟨W0.heap.size,i,none⟩:=fun i=>h2.cell (p:=⟨W0.heap.size,i,none⟩) (show W0.heap.size < (W0.alloc (.cells #[.int .i64 p.ops[n].p,.int .i64 q,.int .i64 p.ops[n].d,.int .i64 p.ops[n].a,.int .i64 p.ops[n].b,.int .i64 p.ops[n].r,.int .i64 p.ops[n].c,.int .i64 p.ops[n].e] 157)).heap.size by simp)
       refine⟨(hW _ (by show p.B < _;omega)).trans b0',(hW _ (by show p.B < _;omega)).trans bq',?_,?_,?_,?_,?_,?_,?_,?_,HW1.out.trans (h2.mono HW1.out.size)⟩;all_goals (rw[hN];simp))
      clear hW0 b0 b1 b7 b4 bq c0 c1 c2 c3 c4 c5 c6 c7 hwc hbW hsW;go_wp2_with fail
      go_region_held3 (fun w'=>w'.cell? ⟨p.B,0,none⟩=some (.int .i64 p.o)∧w'.cell? ⟨p.B,8+q,none⟩=some (vs q)∧w'.cell? ⟨W0.heap.size,0,none⟩=some (.int .i64 p.ops[n].p)∧w'.cell? ⟨W0.heap.size,1,none⟩=some (.int .i64 q)∧w'.cell? ⟨W0.heap.size,2,none⟩=some (.int .i64 p.ops[n].d)∧w'.cell? ⟨W0.heap.size,3,none⟩=some (.int .i64 p.ops[n].a)∧w'.cell? ⟨W0.heap.size,4,none⟩=some (.int .i64 p.ops[n].b)∧w'.cell? ⟨W0.heap.size,5,none⟩=some (.int .i64 p.ops[n].r)∧w'.cell? ⟨W0.heap.size,6,none⟩=some (.int .i64 p.ops[n].c)∧w'.cell? ⟨W0.heap.size,7,none⟩=some (.int .i64 p.ops[n].e)) (go_keep)
       (first | (go_at_call 284;refine(HC.out _ HW1.out).mono ?_;rintro e w2 ⟨hb2,v2,rfl,hr2⟩;have HRW:=hideIt (hr2.base (base':=w.heap.size) HW1.out.size);clear hr2;obtain⟨p0,pq,p1,p2,p3,p4,p5,p6,p7,p8,hb3⟩:=HK2.out w2 hb2;have HB3:=hideIt hb3;clear hb2 hb3))
      go_wp2_with fail
      go_quiet (fail)
      go_wp2;go_ret2;exact⟨below_drewN HB3.out _,by rw[HR.out];exact⟨_,rfl⟩⟩
     ·have HR:Hid (stepN p.sr S ord n=some st):=hideIt (by rw[HST.out,HT.out,hst];simp[he,hz]);rw[hst] at HC;clear hst HT HST;go_enter Tryz.func267,Tryz.ntmps267
      go_wp2_with fail
      go_quiet (first | (go_at_call 82;exact Calls.quiet_of_same (HHAS.out _)) | (go_at_call 84;exact Calls.quiet_of_same (HCOV.out _)))
      generalize hW0:w.drewN nq=W0;obtain⟨⟨b0',b1',bq',c0',c1',c2',c3',c4',c5',c6',c7'⟩,hbW,hsW⟩:=HALL.out nq W0 hW0;have HW1:Hid (Below w.heap.size w (W0.alloc (.cells #[.int .i64 p.ops[n].p,.int .i64 q,.int .i64 p.ops[n].d,.int .i64 p.ops[n].a,.int .i64 p.ops[n].b,.int .i64 p.ops[n].r,.int .i64 p.ops[n].c,.int .i64 p.ops[n].e] 157)).drew):=hideIt ((hbW.alloc (by omega) _).drew);have HK2:Hid (∀w2,Below (W0.alloc (.cells #[.int .i64 p.ops[n].p,.int .i64 q,.int .i64 p.ops[n].d,.int .i64 p.ops[n].a,.int .i64 p.ops[n].b,.int .i64 p.ops[n].r,.int .i64 p.ops[n].c,.int .i64 p.ops[n].e] 157)).drew.heap.size (W0.alloc (.cells #[.int .i64 p.ops[n].p,.int .i64 q,.int .i64 p.ops[n].d,.int .i64 p.ops[n].a,.int .i64 p.ops[n].b,.int .i64 p.ops[n].r,.int .i64 p.ops[n].c,.int .i64 p.ops[n].e] 157)).drew w2→w2.cell? ⟨p.B,0,none⟩=some (.int .i64 p.o)∧w2.cell? ⟨p.B,8+q,none⟩=some (vs q)∧w2.cell? ⟨W0.heap.size,0,none⟩=some (.int .i64 p.ops[n].p)∧w2.cell? ⟨W0.heap.size,1,none⟩=some (.int .i64 q)∧w2.cell? ⟨W0.heap.size,2,none⟩=some (.int .i64 p.ops[n].d)∧w2.cell? ⟨W0.heap.size,3,none⟩=some (.int .i64 p.ops[n].a)∧w2.cell? ⟨W0.heap.size,4,none⟩=some (.int .i64 p.ops[n].b)∧w2.cell? ⟨W0.heap.size,5,none⟩=some (.int .i64 p.ops[n].r)∧w2.cell? ⟨W0.heap.size,6,none⟩=some (.int .i64 p.ops[n].c)∧w2.cell? ⟨W0.heap.size,7,none⟩=some (.int .i64 p.ops[n].e)∧Below w.heap.size w w2):=hideIt (fun w2 h2=>by
       have hW:∀a:Addr,a.block < W0.heap.size→w2.cell? a=W0.cell? a:=fun a ha=>(h2.cell (p:=a) (show a.block < (W0.alloc (.cells #[.int .i64 p.ops[n].p,.int .i64 q,.int .i64 p.ops[n].d,.int .i64 p.ops[n].a,.int .i64 p.ops[n].b,.int .i64 p.ops[n].r,.int .i64 p.ops[n].c,.int .i64 p.ops[n].e] 157)).heap.size by simp;omega)).trans (World.cell?_alloc_lt W0 _ a ha)
       have hN:∀i,w2.cell? ⟨W0.heap.size,i,none⟩=(W0.alloc (.cells #[.int .i64 p.ops[n].p,.int .i64 q,.int .i64 p.ops[n].d,.int .i64 p.ops[n].a,.int .i64 p.ops[n].b,.int .i64 p.ops[n].r,.int .i64 p.ops[n].c,.int .i64 p.ops[n].e] 157)).cell? ⟨W0.heap.size,i,none⟩:=fun i=>h2.cell (p:=⟨W0.heap.size,i,none⟩) (show W0.heap.size < (W0.alloc (.cells #[.int .i64 p.ops[n].p,.int .i64 q,.int .i64 p.ops[n].d,.int .i64 p.ops[n].a,.int .i64 p.ops[n].b,.int .i64 p.ops[n].r,.int .i64 p.ops[n].c,.int .i64 p.ops[n].e] 157)).heap.size by simp)
       refine⟨(hW _ (by show p.B < _;omega)).trans b0',(hW _ (by show p.B < _;omega)).trans bq',?_,?_,?_,?_,?_,?_,?_,?_,HW1.out.trans (h2.mono HW1.out.size)⟩;all_goals (rw[hN];simp))
      clear hW0 b0 b1 b7 b4 bq c0 c1 c2 c3 c4 c5 c6 c7 hwc hbW hsW;go_wp2_with fail
      go_region_held3 (fun w'=>w'.cell? ⟨p.B,0,none⟩=some (.int .i64 p.o)∧w'.cell? ⟨p.B,8+q,none⟩=some (vs q)∧w'.cell? ⟨W0.heap.size,0,none⟩=some (.int .i64 p.ops[n].p)∧w'.cell? ⟨W0.heap.size,1,none⟩=some (.int .i64 q)∧w'.cell? ⟨W0.heap.size,2,none⟩=some (.int .i64 p.ops[n].d)∧w'.cell? ⟨W0.heap.size,3,none⟩=some (.int .i64 p.ops[n].a)∧w'.cell? ⟨W0.heap.size,4,none⟩=some (.int .i64 p.ops[n].b)∧w'.cell? ⟨W0.heap.size,5,none⟩=some (.int .i64 p.ops[n].r)∧w'.cell? ⟨W0.heap.size,6,none⟩=some (.int .i64 p.ops[n].c)∧w'.cell? ⟨W0.heap.size,7,none⟩=some (.int .i64 p.ops[n].e)) (go_keep)
       (first | (go_at_call 284;refine(HC.out _ HW1.out).mono ?_;rintro e w2 ⟨hb2,v2,rfl,hr2⟩;have HRW:=hideIt (hr2.base (base':=w.heap.size) HW1.out.size);clear hr2;obtain⟨p0,pq,p1,p2,p3,p4,p5,p6,p7,p8,hb3⟩:=HK2.out w2 hb2;have HB3:=hideIt hb3;clear hb2 hb3))
      go_wp2_with fail
      go_quiet (fail)
      go_wp2;go_ret2;exact⟨below_drewN HB3.out _,by rw[HR.out];exact⟨_,rfl,HRW.out⟩⟩
    ·have HR:Hid (stepN p.sr S ord n=some st):=hideIt (by rw[HST.out,HT.out,hst];simp[he]);rw[hst] at HC;clear hst HT HST;go_enter Tryz.func267,Tryz.ntmps267
     go_wp2_with fail
     go_quiet (first | (go_at_call 82;exact Calls.quiet_of_same (HHAS.out _)) | (go_at_call 84;exact Calls.quiet_of_same (HCOV.out _)))
     generalize hW0:w.drewN nq=W0;obtain⟨⟨b0',b1',bq',c0',c1',c2',c3',c4',c5',c6',c7'⟩,hbW,hsW⟩:=HALL.out nq W0 hW0;have HW1:Hid (Below w.heap.size w (W0.alloc (.cells #[.int .i64 p.ops[n].p,.int .i64 q,.int .i64 p.ops[n].d,.int .i64 p.ops[n].a,.int .i64 p.ops[n].b,.int .i64 p.ops[n].r,.int .i64 p.ops[n].c,.int .i64 p.ops[n].e] 157)).drew):=hideIt ((hbW.alloc (by omega) _).drew);have HK2:Hid (∀w2,Below (W0.alloc (.cells #[.int .i64 p.ops[n].p,.int .i64 q,.int .i64 p.ops[n].d,.int .i64 p.ops[n].a,.int .i64 p.ops[n].b,.int .i64 p.ops[n].r,.int .i64 p.ops[n].c,.int .i64 p.ops[n].e] 157)).drew.heap.size (W0.alloc (.cells #[.int .i64 p.ops[n].p,.int .i64 q,.int .i64 p.ops[n].d,.int .i64 p.ops[n].a,.int .i64 p.ops[n].b,.int .i64 p.ops[n].r,.int .i64 p.ops[n].c,.int .i64 p.ops[n].e] 157)).drew w2→w2.cell? ⟨p.B,0,none⟩=some (.int .i64 p.o)∧w2.cell? ⟨p.B,8+q,none⟩=some (vs q)∧w2.cell? ⟨W0.heap.size,0,none⟩=some (.int .i64 p.ops[n].p)∧w2.cell? ⟨W0.heap.size,1,none⟩=some (.int .i64 q)∧w2.cell? ⟨W0.heap.size,2,none⟩=some (.int .i64 p.ops[n].d)∧w2.cell? ⟨W0.heap.size,3,none⟩=some (.int .i64 p.ops[n].a)∧w2.cell? ⟨W0.heap.size,4,none⟩=some (.int .i64 p.ops[n].b)∧w2.cell? ⟨W0.heap.size,5,none⟩=some (.int .i64 p.ops[n].r)∧w2.cell? ⟨W0.heap.size,6,none⟩=some (.int .i64 p.ops[n].c)∧w2.cell? ⟨W0.heap.size,7,none⟩=some (.int .i64 p.ops[n].e)∧Below w.heap.size w w2):=hideIt (fun w2 h2=>by
      have hW:∀a:Addr,a.block < W0.heap.size→w2.cell? a=W0.cell? a:=fun a ha=>(h2.cell (p:=a) (show a.block < (W0.alloc (.cells #[.int .i64 p.ops[n].p,.int .i64 q,.int .i64 p.ops[n].d,.int .i64 p.ops[n].a,.int .i64 p.ops[n].b,.int .i64 p.ops[n].r,.int .i64 p.ops[n].c,.int .i64 p.ops[n].e] 157)).heap.size by simp;omega)).trans (World.cell?_alloc_lt W0 _ a ha)
      have hN:∀i,w2.cell? ⟨W0.heap.size,i,none⟩=(W0.alloc (.cells #[.int .i64 p.ops[n].p,.int .i64 q,.int .i64 p.ops[n].d,.int .i64 p.ops[n].a,.int .i64 p.ops[n].b,.int .i64 p.ops[n].r,.int .i64 p.ops[n].c,.int .i64 p.ops[n].e] 157)).cell? ⟨W0.heap.size,i,none⟩:=fun i=>h2.cell (p:=⟨W0.heap.size,i,none⟩) (show W0.heap.size < (W0.alloc (.cells #[.int .i64 p.ops[n].p,.int .i64 q,.int .i64 p.ops[n].d,.int .i64 p.ops[n].a,.int .i64 p.ops[n].b,.int .i64 p.ops[n].r,.int .i64 p.ops[n].c,.int .i64 p.ops[n].e] 157)).heap.size by simp)
      refine⟨(hW _ (by show p.B < _;omega)).trans b0',(hW _ (by show p.B < _;omega)).trans bq',?_,?_,?_,?_,?_,?_,?_,?_,HW1.out.trans (h2.mono HW1.out.size)⟩;all_goals (rw[hN];simp))
     clear hW0 b0 b1 b7 b4 bq c0 c1 c2 c3 c4 c5 c6 c7 hwc hbW hsW;go_wp2_with fail
     go_region_held3 (fun w'=>w'.cell? ⟨p.B,0,none⟩=some (.int .i64 p.o)∧w'.cell? ⟨p.B,8+q,none⟩=some (vs q)∧w'.cell? ⟨W0.heap.size,0,none⟩=some (.int .i64 p.ops[n].p)∧w'.cell? ⟨W0.heap.size,1,none⟩=some (.int .i64 q)∧w'.cell? ⟨W0.heap.size,2,none⟩=some (.int .i64 p.ops[n].d)∧w'.cell? ⟨W0.heap.size,3,none⟩=some (.int .i64 p.ops[n].a)∧w'.cell? ⟨W0.heap.size,4,none⟩=some (.int .i64 p.ops[n].b)∧w'.cell? ⟨W0.heap.size,5,none⟩=some (.int .i64 p.ops[n].r)∧w'.cell? ⟨W0.heap.size,6,none⟩=some (.int .i64 p.ops[n].c)∧w'.cell? ⟨W0.heap.size,7,none⟩=some (.int .i64 p.ops[n].e)) (go_keep)
      (first | (go_at_call 284;refine(HC.out _ HW1.out).mono ?_;rintro e w2 ⟨hb2,v2,rfl,hr2⟩;have HRW:=hideIt (hr2.base (base':=w.heap.size) HW1.out.size);clear hr2;obtain⟨p0,pq,p1,p2,p3,p4,p5,p6,p7,p8,hb3⟩:=HK2.out w2 hb2;have HB3:=hideIt hb3;clear hb2 hb3))
     go_wp2_with fail
     go_quiet (fail)
     go_wp2;go_ret2;exact⟨below_drewN HB3.out _,by rw[HR.out];exact⟨_,rfl,HRW.out⟩⟩
 ·rw[h1] at HHAS HFR;have HF:Hid (freeB p.sr ord n=false):=hideIt (by rw[←HFR.out];rfl);clear h1;go_enter Tryz.func267,Tryz.ntmps267
  go_wp2_with fail
  go_quiet ((go_at_call 82;exact Calls.quiet_of_same (HHAS.out _)))
  go_wp2;go_ret2;exact HN.out HF.out _ (below_drewN (Below.refl _ _) _)
end Go.Proofs.YtjpklmighoondaaGreatDoor
