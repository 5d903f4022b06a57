/-
  The fact that the statements of chapter 20 hold ahead, walked.
  Run of package model: walked.
  An order that is whole, and timely: walked.
-/
import Derived.Test.YtjpklmighoondaaGreatDoorFaTZ
import Derived.Test.YtjpklmighoondaaGreatDoorFaVZ
import Derived.Test.YtjpklmighoondaaGreatDoorPlainNZ
import Derived.Test.YtjpklmighoondaaGreatDoorCallWZ
import Derived.Test.YtjpklmighoondaaGreatDoorNuWZ
import Derived.Test.YtjpklmighoondaaGreatDoorVerdictWZ
import Derived.Deep.RegionHeld3
namespace Go.Proofs.YtjpklmighoondaaGreatDoor.Fa
open Go.RowKit
set_option maxRecDepth 100000 in
set_option maxHeartbeats 4000000 in
theorem tried_any (m:Int) (w:World) (hv:Gn.ErrV w) (hp:Gn.PowT w) (hm:w.cell? ⟨1,0,none⟩=some (.int .i64 m)) (hK:KnownAt w):Calls Tryz.prog 6 #[] w fun e w'=>e=.returned (.bool true)∧Below w.heap.size w w':=by
 have h1:1 < w.heap.size:=World.block_lt_of_cell? w _ hm;have hpos:0 < w.heap.size:=by omega
 have hx:TxW w (w.heap.size+2) m:=⟨hv,hp,hm,⟨by have:=hv.lt.1;omega,by have:=hv.lt.2;omega,by have:=hp.lt;omega⟩,by omega⟩;have HP:Hid (Calls Tryz.prog 17 #[.string ⟨#[110,111,100,101,115,32,51,10,99,108,105,101,110,116,115,32,49,10,113,117,111,114,117,109,32,50,32,50,10,103,101,110,32,108,105,109,105,116,32,49,32,119,114,105,116,101,32,48,32,53,32,53,10]⟩] w fun e w'=>e=.returned (.tuple #[.agg #[.int .i64 3,.int .i64 1,.int .i64 2,.int .i64 2,.bool true,.string ⟨#[]⟩,.string (Gn.ba gen0),.int .i64 10000],.nilIface])∧Below w.heap.size w w'):=parse0 m w hx (by omega);have hc:St.checkC ((3:Nat):Int) ((1:Nat):Int) ((2:Nat):Int) ((2:Nat):Int)=0:=by decide
 have HR:Hid (∀Z,Below w.heap.size w Z→Calls Tryz.prog 9 #[.agg #[.int .i64 3,.int .i64 1,.int .i64 2,.int .i64 2,.bool true,.string ⟨#[]⟩,.string (Gn.ba gen0),.int .i64 10000],.slice none 0 0] Z (RunTold 3 1 2 2 true ⟨#[]⟩ gen0 10000 [] Z)):=fun Z hZ=>
  run_any 3 1 2 2 true ⟨#[]⟩ gen0 10000 none 0 [] Z (by decide) (by decide) (.inl rfl) (hv.fr (Gn.fr_below hZ []) (by simp) (by simp)) (hK.below hpos hZ)
 have HB0:=hideIt (Below.refl w.heap.size w);clear hv hp hm hK hx hpos;go_enter Tryz.func6,Tryz.ntmps6
 go_wp2_with fail
 refine HP.out.mono ?_;rintro e W1 ⟨rfl,hb1⟩;have HB1:=hideIt (St.belA hb1 (.cells #[.int .i64 3,.int .i64 1,.int .i64 2,.int .i64 2,.bool true,.string ⟨#[]⟩,.string (Gn.ba gen0),.int .i64 10000] 25));clear hb1;go_wp2_with fail
 refine(HR.out _ HB1.out).mono ?_;rintro e W2 htold;rcases htold with ⟨Ty,x,rfl,hwhy,hb2⟩ | ⟨_,n2,k2,a2,t2,e1,e2,e3,e4,_,g,T1,T2,b,hg,hmv,hfi,hb,hG,_,hrep⟩
 ·exfalso
  rcases hwhy with h | h | h | ⟨n2,k2,a2,t2,b,g,T1,T2,e1,e2,e3,e4,hg,hmv,hfi,_,h⟩
  ·exact absurd h (by decide)
  ·exact h hc
  ·rw[gen0_reads] at h;cases h
  ·obtain rfl:3=n2:=by omega
   obtain rfl:1=k2:=by omega
   obtain rfl:2=a2:=by omega
   obtain rfl:2=t2:=by omega
   obtain rfl:g1=g:=by
    rw[gen0_reads] at hg;exact Option.some.inj hg
   obtain rfl:T00 3 1 2 2 true g1 []=T1:=by
    cases hmv with
    | done _ _=>rfl
    | step h _=>exact absurd h (Nat.not_lt_zero _)
   obtain rfl:Tt3=T2:=tt_fin.det hfi;exact h tt_ok
 ·obtain rfl:3=n2:=by omega
  obtain rfl:1=k2:=by omega
  obtain rfl:2=a2:=by omega
  obtain rfl:2=t2:=by omega
  obtain rfl:g1=g:=by
   rw[gen0_reads] at hg;exact Option.some.inj hg
  obtain rfl:T00 3 1 2 2 true g1 []=T1:=by
   cases hmv with
   | done _ _=>rfl
   | step h _=>exact absurd h (Nat.not_lt_zero _)
  obtain rfl:Tt3=T2:=tt_fin.det hfi;obtain⟨hb2,v',L,ho,hO,h40,ov,rfl,ho1,ho2⟩:=hrep;have hcd:(searchM (srB 1 L (10000:Int).toNat)).code=1:=tt_code hO;obtain⟨oa,oc,rfl⟩:=St.ownsRow_slice (ho1 hcd);rw[tt_evs] at ho;obtain⟨va,vc,rfl,hin⟩:=evs_in ho;rcases hin with h0 | ⟨vb,rfl,hvb,hE⟩
  ·cases h0
  have h5:W2.cell? ⟨vb,11,none⟩=some (.int .i64 5):=(hE 1 (by decide)).2.2.2.2.1;have HB2:=hideIt (St.belJ HB1.out hb2);rw[hcd];generalize (searchM (srB 1 L (10000:Int).toNat)).ent.length=el at*
  generalize (searchM (srB 1 L (10000:Int).toNat)).ord.length=ol at*
  clear HR hG hb hfi hmv hg ho1 ho2 ho hO h40 hE hcd hb2 hc e1 e2 e3 e4;have h5':(W2.alloc (.cells #[.string ⟨#[]⟩,.slice (some ⟨vb,0,none⟩) 2 vc,.int .i64 1,.slice oa ol oc,.int .i64 (el:Int)] 36)).cell? ⟨vb,11,none⟩=some (.int .i64 5):=((St.belA (Below.refl W2.heap.size W2) (.cells #[.string ⟨#[]⟩,.slice (some ⟨vb,0,none⟩) 2 vc,.int .i64 1,.slice oa ol oc,.int .i64 (el:Int)] 36)).cell (p:=⟨vb,11,none⟩) hvb).trans h5;have HB3:Hid (Below w.heap.size w (W2.alloc (.cells #[.string ⟨#[]⟩,.slice (some ⟨vb,0,none⟩) 2 vc,.int .i64 1,.slice oa ol oc,.int .i64 (el:Int)] 36))):=St.belA HB2.out _;go_wp2;go_ret;exact⟨rfl,HB3.out⟩
end Go.Proofs.YtjpklmighoondaaGreatDoor.Fa
namespace Go.Proofs.YtjpklmighoondaaGreatDoor
open Go.RowKit
theorem MapS.look {w:World} {M n:Nat} {f:Int→Option Value} (h:MapS w M n f) (p:Int) (h0:0≤p) (h8:p < 8):
  ∃v,(Instr.lookup 170 (.map (some M)) (.int .i64 p) true).run Tryz.prog w=.ok (.tuple #[v,.bool (f p).isSome]) w∧∀v',f p=some v'→v=v':=by
 obtain⟨D,h1,h2⟩:=h;obtain⟨v,ps,hrun,hv⟩:=h1.look_ok keyedI Tryz.underlying170 (zeroE w) slElem_nil (keyI p h0 h8);refine⟨v,by rw[←(h2 p).1];exact hrun,fun v' hv'=>?_⟩;obtain⟨e1,e2⟩:=(h2 p).2 v' hv';rw[e2] at hv;have hps:ps= []:=by
  unfold slElem at hv
  split at hv
  ·have:=congrArg Prod.snd (Option.some.inj hv);exact this.symm
  ·have:=congrArg Prod.snd (Option.some.inj hv);exact this.symm
  ·cases hv
 subst hps;exact slD_inj hv e1
theorem MapS.store {w:World} {M n:Nat} {f:Int→Option Value} (h:MapS w M n f) (hn:n < 1000) (p:Int) (h0:0≤p) (h8:p < 8) (v:Value) (hv:slElem v=some (slD v,[])):
  ∃w',(Instr.mapUpdate 170 (.map (some M)) (.int .i64 p) v).run Tryz.prog w=.ok () w'∧MapS w' M (n+1) (setK f p (some v))∧w.grownBy w' (some M):=by
 obtain⟨D,h1,h2⟩:=h;obtain⟨w',hrun,ho,ht⟩:=h1.store keyedI Tryz.underlying170 (by unfold maxLen;omega) (keyI p h0 h8) hv;refine⟨w',hrun,⟨_,ho,fun q=>?_⟩,ht.grown⟩;by_cases e:q=p
 ·subst e;rw[setK_same,Maps.has_put_same h1.isMap (isKeyI q)];exact⟨rfl,fun o ho=>by obtain rfl:=Option.some.inj ho;exact⟨hv,fun z=>Maps.atKey_put_same h1.isMap (isKeyI q) _ z⟩⟩
 ·have hne:(Lit.int .i64 q)≠.int .i64 p:=fun k=>e (by simpa using k)
  rw[setK_other _ _ _ _ e,Maps.has_put_other hne];exact⟨(h2 q).1,fun o ho=>⟨((h2 q).2 o ho).1,fun z=>by rw[Maps.atKey_put_other hne];exact((h2 q).2 o ho).2 z⟩⟩
theorem StatesAt.next {w w2:World} {M n:Nat} {o:Int} {S:Int→List Int} {f:Int→Option Value} (h:StatesAt w M n o S f) (hn:n < 1000) {p:Int} (h0:0≤p) (h8:p < 8) {v v':Value} {st':List Int}
  (_hM:M < w.heap.size) (hv:f p=some v∨(∀b,v.ownBlock=some b→M+1≤b∧∀q u,f q=some u→u.ownBlock≠some b)) (hr:∀b,v.ownBlock=some b→M+1≤b) (ht:Turned w (M+1) v w2 v' st'):
  ∃w3,(Instr.mapUpdate 170 (.map (some M)) (.int .i64 p) v').run Tryz.prog w2=.ok () w3∧StatesAt w3 M (n+1) o (setK S p st') (setK f p (some v'))∧w2.grownBy w3 (some M):=by
 have hMv:some M≠v.ownBlock:=fun e=>by have:=hr M e.symm;omega
 obtain⟨w3,hrun,hm,hg⟩:=(h.map.kept ht.grown hMv).store hn p h0 h8 v' (slElem_row ht.row);have hother:∀q u,q≠p→f q=some u→∀b,u.ownBlock=some b→v.ownBlock≠some b:=fun q u hq hu b hb e=>by
  rcases hv with hv | hv
  ·exact h.apart p q v u b (Ne.symm hq) hv hu e hb
  ·exact(hv b e).2 q u hu hb
 refine⟨w3,hrun,⟨hm,fun q u hu=>?_,fun q hq=>?_,fun q q' u u' b hqq hu hu' hb=>?_⟩,hg⟩
 ·by_cases e:q=p
  ·subst e;rw[setK_same] at hu ⊢;obtain rfl:=Option.some.inj hu;exact ht.row.kept hg (.inr fun e=>by have:=(ht.row.lt M e).1;omega)
  ·rw[setK_other _ _ _ _ e] at hu ⊢;have hrow:=h.row q u hu;refine(hrow.kept ht.grown ?_).kept hg (.inr fun e=>by have:=(hrow.lt M e).1;omega);cases hub:u.ownBlock with
   | none=>exact .inl rfl
   | some b=>exact .inr fun e'=>hother q u e hu b hub e'.symm
 ·by_cases e:q=p
  ·subst e;rw[setK_same] at hq;cases hq
  ·rw[setK_other _ _ _ _ e] at hq ⊢;exact h.start q hq
 ·by_cases e:q=p
  ·subst e;rw[setK_same] at hu;obtain rfl:=Option.some.inj hu;rw[setK_other _ _ _ _ (Ne.symm hqq)] at hu';intro e';rcases ht.own b hb with hb' | hb'
   ·exact hother q' u' (Ne.symm hqq) hu' b e' hb'
   ·have:=((h.row q' u' hu').lt b e').2;omega
  ·rw[setK_other _ _ _ _ e] at hu;by_cases e2:q'=p
   ·subst e2;rw[setK_same] at hu';obtain rfl:=Option.some.inj hu';intro e';rcases ht.own b e' with hb' | hb'
    ·exact hother q u e hu b hb hb'
    ·have:=((h.row q u hu).lt b hb).2;omega
   ·rw[setK_other _ _ _ _ e2] at hu';exact h.apart q q' u u' b hqq hu hu' hb
theorem one_call {w W:World} {M n:Nat} {o:Int} {S:Int→List Int} {f:Int→Option Value} {op:Opn} (h:StatesAt W M n o S f) (hn:n < 1000) (h0:0≤op.k) (h8:op.k < 8) (hM1:0 < M) (hMw:M < w.heap.size) (hK:KnownAt w)
  (hg:w.grownBy W none) (hbox:OpAt W w.heap.size 0 op) {v:Value} (hv:f op.k=some v∨(∀b,v.ownBlock=some b→M+1≤b∧∀q u,f q=some u→u.ownBlock≠some b)) (hrow:RowAt W (M+1) v (S op.k)) (hnb:v.ownBlock≠some w.heap.size)
  (hrise:o=3→(S op.k).Pairwise (· ≤ ·)) (hlen:(S op.k).length≤1000):
  Calls Tryz.prog 141 #[.int .i64 o,v,op.agg] W fun e w2=>
   (stepM o (S op.k) op.d op.a op.b=none∧e=.returned (.tuple #[.slice none 0 0,.int .i64 0,.bool false])∧Below M w w2)∨
   ∃st' r v' w3,stepM o (S op.k) op.d op.a op.b=some (st',r)∧e=.returned (.tuple #[v',.int .i64 r,.bool true])∧(Instr.mapUpdate 170 (.map (some M)) (.int .i64 op.k) v').run Tryz.prog w2=.ok () w3∧
    OpAt w2 w.heap.size 0 op∧OpAt w3 w.heap.size 0 op∧Below M w w3∧∃f',StatesAt w3 M (n+1) o (after o S op) f':=by
 have hMW:M < W.heap.size:=Nat.lt_of_lt_of_le hMw hg.size;have hr:∀b,v.ownBlock=some b→M+1≤b:=fun b hb=>(hrow.lt b hb).1
 have hbW:Below M w W:=(below_grown hg).mono (by omega);refine(call_any o (S op.k) op v (M+1) W (hK.below hM1 hbW) hrow hrise (by omega) (by omega) (by omega)).mono ?_;intro e w2 ht;unfold CallTold at ht;cases hst:stepM o (S op.k) op.d op.a op.b with
 | none=>
  rw[hst] at ht;exact .inl ⟨rfl,ht.1,bel_turned hbW (by omega) hr ht.2⟩
 | some p=>
  obtain⟨st',r⟩:=p;rw[hst] at ht;obtain⟨v',he,ht⟩:=ht;obtain⟨w3,hrun,hs,hg3⟩:=h.next hn h0 h8 hMW hv hr ht;have hb2:=bel_turned hbW (by omega) hr ht.grown;have ho2:=hbox.kept ht.grown (fun e=>hnb e.symm);refine .inr ⟨st',r,v',w3,rfl,he,hrun,ho2,ho2.kept hg3 (fun e=>by simp at e;omega),?_,_,by rw[after_some hst];exact hs⟩;exact hb2.grown hg3 (Nat.le_trans (by omega) ht.grown.size) (fun k hk=>by simp at hk;omega)
set_option maxRecDepth 100000 in
set_option maxHeartbeats 2000000 in
theorem runOne_any (o:Int) (op:Opn) (M n:Nat) (S:Int→List Int) (f:Int→Option Value) (w:World) (h:StatesAt w M n o S f) (hn:n < 1000) (h0:0≤op.k) (h8:op.k < 8) (hM1:0 < M) (hMw:M < w.heap.size) (hK:KnownAt w)
  (hrise:o=3→(S op.k).Pairwise (· ≤ ·)) (hlen:(S op.k).length≤1000):
  Calls Tryz.prog 87 #[.int .i64 o,.map (some M),op.agg] w fun e w'=>OneTold w M n o S op e w':=by
 have hgr:=World.grownBy_alloc w op.obj none;have h1:=h.kept hgr;have hbox:=opAt_obj w op;obtain⟨v,hlook,hv⟩:=h1.map.look op.k h0 h8;cases hf:f op.k with
 | none=>
  rw[hf] at hlook;simp only[Option.isSome_none] at hlook;have hst:=startAt (w.alloc op.obj) o;have hsg:=startGrown (w.alloc op.obj) o;have hsc:=start_any o (w.alloc op.obj);obtain⟨V2,hV2⟩:∃V2,V2=startV (w.alloc op.obj) o:=⟨_,rfl⟩;obtain⟨W2,hW2⟩:∃W2,W2=startW (w.alloc op.obj) o:=⟨_,rfl⟩;rw[←hV2,←hW2] at hsc;rw[←hW2,←hV2] at hst;rw[←hW2] at hsg;have hbox2:=hbox.kept hsg (by simp);have hlt2:∀b,V2.ownBlock=some b→w.heap.size < b:=fun b hb=>by have:=(hst.lt b hb).1;simp at this;omega
  have HC:=hideIt (one_call (h1.kept hsg) hn h0 h8 hM1 hMw hK (hgr.trans hsg) hbox2 (v:=V2) (.inr fun b hb=>⟨by have:=hlt2 b hb;omega,fun q u hu e=>by have:=((h.row q u hu).lt b e).2;have:=hlt2 b hb;omega⟩) (by rw[h1.start op.k hf];exact hst.base (by simp;omega)) (fun e=>by have:=hlt2 _ e;omega) hrise hlen);have HST:=hideIt hsc;clear hV2 hW2 hst hsg hsc hrise hf h1 h hgr hv hlt2 hbox;obtain⟨b0,b1,b2,b3,b4,b5,b6,b7⟩:=hbox2;unfold Opn.agg at HC;unfold Opn.agg;unfold Opn.obj at hlook HST;cases he:decide (op.e < 0);all_goals
   go_enter Tryz.func87,Tryz.ntmps87
   go_wp2_with (first | (go_at_call 140;refine HST.out.mono ?_;rintro e w1 ⟨rfl,hw1⟩;have hw1:=hw1.symm;subst hw1) | fail)
   refine HC.out.mono ?_;rintro e w2 (⟨hst,rfl,hb⟩ | ⟨st',r,v',w3,hst,rfl,hrun,⟨c0,c1,c2,c3,c4,c5,c6,c7⟩,⟨d0,d1,d2,d3,d4,d5,d6,d7⟩,hb,hs⟩)
   ·have HB:=hideIt hb;have HF:=hideIt (opFine_none hst);clear hst hb;go_wp2;go_ret;exact⟨by rw[HF.out];rfl,HB.out,fun e=>by rw[HF.out] at e;cases e⟩
   ·have HB:=hideIt hb;have HF:=hideIt (opFine_some hst);have HS:=hideIt hs;clear hst hb hs;go_wp2;go_ret;exact⟨by rw[HF.out,he];rfl,HB.out,fun _=>HS.out⟩
 | some v0=>
  rw[hf] at hlook;obtain rfl:=hv v0 hf;simp only[Option.isSome_some] at hlook;have HC:=hideIt (one_call h1 hn h0 h8 hM1 hMw hK hgr hbox (v:=v) (.inl hf) (h1.row _ _ hf) (fun e=>by have:=((h.row _ _ hf).lt _ e).2;omega) hrise hlen);clear hrise hf h1 h hgr hv hbox;unfold Opn.agg at HC;unfold Opn.agg;unfold Opn.obj at hlook HC;cases he:decide (op.e < 0);all_goals
   go_enter Tryz.func87,Tryz.ntmps87
   go_wp2_with fail
   refine HC.out.mono ?_;rintro e w2 (⟨hst,rfl,hb⟩ | ⟨st',r,v',w3,hst,rfl,hrun,⟨c0,c1,c2,c3,c4,c5,c6,c7⟩,⟨d0,d1,d2,d3,d4,d5,d6,d7⟩,hb,hs⟩)
   ·have HB:=hideIt hb;have HF:=hideIt (opFine_none hst);clear hst hb;go_wp2;go_ret;exact⟨by rw[HF.out];rfl,HB.out,fun e=>by rw[HF.out] at e;cases e⟩
   ·have HB:=hideIt hb;have HF:=hideIt (opFine_some hst);have HS:=hideIt hs;clear hst hb hs;go_wp2;go_ret;exact⟨by rw[HF.out,he];rfl,HB.out,fun _=>HS.out⟩
set_option maxRecDepth 100000 in
set_option maxHeartbeats 2000000 in
theorem run_any (o:Int) (ops:List Opn) (ord:List Int) (u v:Value) (w:World) (hu:HasOps w u ops) (hv:HasInts w v ord) (hK:KnownAt w) (hpos:0 < w.heap.size) (hlen:ord.length≤60)
  (hkey:∀op∈ops,0≤op.k∧op.k < 8):
  Calls Tryz.prog 38 #[.int .i64 o,u,v] w fun e w'=>∃z,e=.returned (.int .i64 z)∧RunTold o ops ord z∧Below w.heap.size w w':=by
 obtain⟨a,cap,rfl,hm,hops⟩:=hu;obtain⟨a',cap',rfl,_,_,_,hord⟩:=hv;unfold maxLen at hm;have HOP:Hid (∀n,(hn:n < ops.length)→∃b off,a=some ⟨b,off,none⟩∧∀wr,Below w.heap.size w wr→OpAt wr b (off+n*8) ops[n]):=fun n hn=>by
  obtain h | ⟨b,off,e,hc⟩:=hops
  ·subst h;simp at hn
  ·exact⟨b,off,e,fun wr hW=>(hc n hn).bel hW (hc n hn).lt⟩
 have HOR:Hid (∀n,(hn:n < ord.length)→∃g off,a'=some ⟨g,off,none⟩∧∀wr,Below w.heap.size w wr→wr.cell? ⟨g,off+n,none⟩=some (.int .i64 ord[n])):=fun n hn=>by
  obtain h | ⟨g,off,e,hc⟩:=hord
  ·subst h;simp at hn
  ·exact⟨g,off,e,fun wr hW=>(hW.cell (World.block_lt_of_cell? w _ (hc n hn))).trans (hc n hn)⟩
 have HK:=hideIt hK;have HKEY:=hideIt hkey;have HM:=hideIt (states_made w o);have HB0:=hideIt (below_grown (World.grownBy_alloc w (.map #[] 0) none));have hmm:= @run_makeMap Tryz.prog;clear hops hord hK hkey;go_enter Tryz.func38,Tryz.ntmps38
 go_wp2
 go_loopw [13] (fun i wr=>∃k:Nat,k≤ord.length∧i=.int .i64 k∧(∀j,j < k→fineAt o ops ord j=true)∧(∃f,StatesAt wr w.heap.size k o (sAt o ops ord k) f)∧w.heap.size < wr.heap.size∧Below w.heap.size w wr) (fun i _=>ord.length - (intOf i).toNat)
 case atStart=>exact⟨0,by omega,rfl,fun j hj=>by omega,⟨_,HM.out⟩,by simp,HB0.out⟩
 case round=>
  obtain⟨k,hk,rfl,hf,⟨f,hs⟩,hsz,hb⟩:=hrel;have HF:=hideIt hf;have HS:=hideIt hs;have HB:=hideIt hb;clear hf hs hb;by_cases hkl:k < ord.length
  ·obtain⟨g,off,rfl,hc⟩:=HOR.out k hkl;have hc:=hc _ HB.out;have k1:(0:Int)≤(k:Int):=by omega
   have k2:(k:Int) < (ord.length:Int):=by omega
   have hwr:IntKind.i64.wrap ((k:Int)+1)=(k:Int)+1:=by rw[IntKind.wrap_i64];omega
   obtain⟨n,hn⟩:∃n,ord[k]=n:=⟨_,rfl⟩;rw[hn] at hc;have HN:Hid ((ord[k]?)=some n):=by rw[←hn];exact List.getElem?_eq_getElem hkl
   clear hn;by_cases h1:n < 0
   ·have HE:Hid (RunTold o ops ord k):=.inl ⟨k,hkl,HF.out,fineAt_none (by rw[HN.out];exact opOf_neg h1),rfl⟩;go_wp2;go_ret;exact⟨_,rfl,HE.out,HB.out⟩
   ·by_cases h2:(ops.length:Int)≤n
    ·have HE:Hid (RunTold o ops ord k):=.inl ⟨k,hkl,HF.out,fineAt_none (by rw[HN.out];exact opOf_beyond h2),rfl⟩;go_wp2;go_ret;exact⟨_,rfl,HE.out,HB.out⟩
    ·obtain⟨m,rfl⟩:∃m:Nat,n=m:=⟨n.toNat,by omega⟩;have hml:m < ops.length:=by omega
     obtain⟨b,offo,rfl,hop⟩:=HOP.out m hml;obtain⟨d0,d1,d2,d3,d4,d5,d6,d7⟩:=hop _ HB.out;obtain⟨op,hop⟩:∃op,ops[m]=op:=⟨_,rfl⟩;rw[hop] at d0 d1 d2 d3 d4 d5 d6 d7;have hbind:(ord[k]?).bind (opOf ops)=some op:=by rw[HN.out,←hop];exact opOf_at hml
     have hkk:=HKEY.out op (by rw[←hop];exact List.getElem_mem hml);have HC:=hideIt (runOne_any o op w.heap.size k (sAt o ops ord k) f wr HS.out (by omega) hkk.1 hkk.2 hpos hsz (HK.out.below hpos HB.out) (fun e=>by subst e;exact(sAt_rises ops ord k op.k).imp fun h=>Int.le_of_lt h) (by have:=sAt_len o ops ord k op.k;omega));have HBI:=hideIt hbind;clear hbind hkk hop;have k3:(0:Int)≤(m:Int):=by omega
     have k4:(m:Int) < (ops.length:Int):=by omega
     have k5:decide ((m:Int) < 0)=false:=by simp
     have k6:decide ((ops.length:Int)≤(m:Int))=false:=by simp;omega
     unfold Opn.agg at HC;clear h1 h2;go_wp2_with fail
     refine HC.out.mono ?_;rintro e w1 ⟨rfl,hb1,hs1⟩;have HB1:=hideIt (HB.out.trans hb1);have hsz1:w.heap.size < w1.heap.size:=Nat.lt_of_lt_of_le hsz hb1.size;have HS1:=hideIt hs1;clear hb1 hs1;cases hfi:opFine o (sAt o ops ord k) op
     ·have HE:Hid (RunTold o ops ord k):=.inl ⟨k,hkl,HF.out,by rw[fineAt_some HBI.out];exact hfi,rfl⟩;go_wp2;go_ret;exact⟨_,rfl,HE.out,HB1.out⟩
     ·have HE:=hideIt (HS1.out hfi);go_wp2
      go_roundw
      case rel=>
       refine⟨k+1,by omega,by go_num,fun j hj=>?_,by rw[sAt_succ HBI.out];exact HE.out,hsz1,HB1.out⟩;by_cases e:j < k
       ·exact HF.out j e
       ·obtain rfl:j=k:=by omega
        rw[fineAt_some HBI.out];exact hfi
      case measure=>simp[intOf];omega
  ·have HE:Hid (RunTold o ops ord (-1)):=.inr ⟨fun j hj=>HF.out j (by omega),rfl⟩;go_wp2;go_ret;exact⟨_,rfl,HE.out,HB.out⟩
open Go.RowKit
set_option maxRecDepth 100000 in
set_option maxHeartbeats 1000000 in
theorem isWhole_any (ops:List Opn) (ord:List Int) (u v:Value) (w:World) (hlen:ops.length≤60) (hl:OpsIn w u ops) (hv:HasInts w v ord):
  Calls Tryz.prog 36 #[u,v] w fun e w'=>BoolTold (WholeP ops ord) w e w':=by
 have HE:=hideIt (ended_any ops u w hlen hl);obtain⟨a,cap,rfl,hc,hm,_⟩:=hl;obtain⟨a',cap',rfl,hm1,hm2,_,hv⟩:=hv;unfold maxLen at hm2;have HV:Hid (∀j,(hj:j < ord.length)→∃b off,a'=some ⟨b,off,none⟩∧w.cell? ⟨b,off+j,none⟩=some (.int .i64 ord[j])):=fun j hj=>by
  obtain h | ⟨b,off,e,hc⟩:=hv
  ·subst h;simp at hj
  ·exact⟨b,off,e,hc j hj⟩
 clear hv;go_enter Tryz.func36,Tryz.ntmps36
 go_wp2
 go_loop [5,10] (fun s i=>∃k:Nat,k≤ord.length∧i=.int .i64 k∧s=.int .u64 (maskN (natL (ord.take k)))∧OkTo ops (ord.take k)) (fun _ i=>ord.length - (intOf i).toNat)
 case atStart=>exact⟨0,by omega,rfl,rfl,okTo_nil _⟩
 case round=>
  obtain⟨k,hk,rfl,rfl,hok⟩:=hrel;have HOK:=hideIt hok;clear hok;by_cases hkl:k < ord.length
  ·obtain⟨b,off,rfl,hcell⟩:=HV.out k hkl;have HT:=hideIt (take_snoc ord k hkl);have HM:=hideIt (List.getElem_mem hkl);have HN:Hid (ord[k]∈ord.take k→¬ord.Nodup):=hideIt (fun hmem hnd=>by
    obtain⟨i,hi,e⟩:=List.getElem_of_mem hmem;have hi':i < k:=by simp at hi;omega
    rw[List.getElem_take] at e;exact(List.pairwise_iff_getElem.1 hnd) i k (by omega) hkl hi' e)
   generalize ord[k]=n at hcell HT HM HN;by_cases h1:n < 0
   ·have h1':decide (n < 0)=true:=by simpa using h1
    go_wp2;go_ret;exact toldNo (fun h=>absurd (h.ok.1 _ HM.out).1 (by omega)) (Below.refl _ _)
   ·have h1':decide (n < 0)=false:=by simpa using h1
    by_cases h2:(ops.length:Int)≤n
    ·have h2':decide ((ops.length:Int)≤n)=true:=by simpa using h2
     go_wp2;go_ret;exact toldNo (fun h=>absurd (h.ok.1 _ HM.out).2 (by omega)) (Below.refl _ _)
    ·have h2':decide ((ops.length:Int)≤n)=false:=by simpa using h2
     obtain⟨n,rfl⟩:∃m:Nat,n=m:=⟨n.toNat,by omega⟩;have hml:maskN (natL (ord.take k)) < 18446744073709551616:=maskN_lt (fun m hm=>by have:=natL_lt HOK.out m hm;omega);have hH:Hid (∀W,Calls Tryz.prog 82 #[.int .u64 (maskN (natL (ord.take k))),.int .i64 n] W fun e w'=>e=.returned (.bool ((natL (ord.take k)).contains n))∧w'=W):=hideIt (fun W=>by
      rw[←maskN_bit];exact has_any _ n W hml (by omega))
     cases hc:(natL (ord.take k)).contains n
     ·rw[hc] at hH;have R2:Hid (OkTo ops (ord.take (k+1))):=hideIt (by rw[HT.out];exact HOK.out.snoc (by omega) (by simpa using hc));obtain⟨p,hp,hcall⟩:=bit_call n (by omega);have R1:Hid (bits .or .u64 (maskN (natL (ord.take k)):Int) (p:Int)=(maskN (natL (ord.take (k+1))):Int)):=hideIt (by
       rw[hp,or_bits hml (by omega),HT.out,natL_snoc,or_bit])
      have HC:=hideIt hcall;clear hp hcall hml hc;go_wp2_with (first | (go_at_call 83;refine(HC.out _).mono ?_;rintro e w' ⟨rfl,rfl⟩) | (go_at_call 82;refine(hH.out _).mono ?_;rintro e w' ⟨rfl,rfl⟩))
      go_round
      case rel=>exact⟨k+1,by omega,by go_num,by rw[R1.out],R2.out⟩
      case measure=>simp[intOf];omega
     ·rw[hc] at hH;have R2:Hid (¬WholeP ops ord):=hideIt (fun h=>HN.out ((natL_mem HOK.out n).1 (by simpa using hc)) h.ok.2);clear hml hc;go_wp2_with (go_at_call 82;refine(hH.out _).mono ?_;rintro e w' ⟨rfl,rfl⟩)
      go_ret;exact toldNo R2.out (Below.refl _ _)
  ·have HK:Hid (OkTo ops ord∧ord.take k=ord):=hideIt (by
    have:ord.take k=ord:=List.take_of_length_le (by omega);exact⟨this▸HOK.out,this⟩)
   have HC:Hid (∀W,Calls Tryz.prog 84 #[.int .u64 (maskN (natL (ord.take k))),.int .u64 (maskN (endL ops))] W fun e w'=>e=.returned (.bool (coversN (maskN (natL ord)) (maskN (endL ops))))∧w'=W):=hideIt (fun W=>by
    rw[HK.out.2];exact covers_any _ _ W (maskN_lt (fun m hm=>by have:=natL_lt HK.out.1 m hm;omega)) (maskN_lt (fun m hm=>by have:=endL_lt m hm;omega)))
   have HR:=hideIt (whole_covers HK.out.1 hlen);generalize coversN (maskN (natL ord)) (maskN (endL ops))=b at HC HR;go_wp2_with (first | (go_at_call 85;refine HE.out.mono ?_;rintro e w1 ⟨rfl,hb1⟩;have HB1:=hideIt hb1;clear hb1) | (go_at_call 84;refine(HC.out _).mono ?_;rintro e w' ⟨rfl,rfl⟩))
   go_ret;exact⟨b,rfl,HR.out,HB1.out⟩
set_option maxRecDepth 100000 in
set_option maxHeartbeats 4000000 in
theorem isTimely_any (ops:List Opn) (ord:List Int) (u v:Value) (w:World) (hlen:ops.length≤60) (hl:OpsIn w u ops) (hv:HasInts w v ord) (hok:∀n∈ord,0≤n∧n < (ops.length:Int)):
  Calls Tryz.prog 37 #[u,v] w fun e w'=>BoolTold (TimelyTo ops ord ord.length) w e w':=by
 have HV0:=hideIt hv;have HL0:=hideIt hl;have HVB:Hid (∀wr,Below w.heap.size w wr→∀j,(hj:j < ord.length)→∃n:Nat,∃hn:n < ops.length,ord[j]=n∧opI ops ord[j]=ops[n]):=hideIt (fun wr _ j hj=>by
  have:=hok _ (List.getElem_mem hj);refine⟨ord[j].toNat,by omega,by omega,?_⟩;unfold opI;exact opN_at (by omega))
 obtain⟨a,cap,rfl,hc,hm,hops⟩:=hl;obtain⟨a',cap',rfl,hm1,hm2,_,hv⟩:=hv;unfold maxLen at hm2 hm;have HV:Hid (∀wr,Below w.heap.size w wr→∀j,(hj:j < ord.length)→∃b off,a'=some ⟨b,off,none⟩∧wr.cell? ⟨b,off+j,none⟩=some (.int .i64 ord[j])):=hideIt (fun wr hW j hj=>by
  obtain h | ⟨b,off,e,hc⟩:=hv
  ·subst h;simp at hj
  ·exact⟨b,off,e,(hW.cell (p:=⟨b,off+j,none⟩) (World.block_lt_of_cell? w _ (hc j hj))).trans (hc j hj)⟩)
 have HOP:Hid (∀n,(hn:n < ops.length)→∃b off,a=some ⟨b,off,none⟩∧∀wr,Below w.heap.size w wr→OpAt wr b (off+n*8) ops[n]):=hideIt (fun n hn=>by
  obtain h | ⟨b,off,e,hlt,hc⟩:=hops
  ·subst h;simp at hn
  ·exact⟨b,off,e,fun wr hW=>(hc n hn).below hlt hW⟩)
 clear hv hops hok;go_enter Tryz.func37,Tryz.ntmps37
 go_wp2
 go_loopw [11] (fun i wr=>∃k:Nat,k≤ord.length∧i=.int .i64 k∧TimelyTo ops ord k∧Below w.heap.size w wr) (fun i _=>ord.length - (intOf i).toNat)
 case atStart=>exact⟨0,by omega,rfl,timelyTo_zero _ _,Below.refl _ _⟩
 case round=>
  obtain⟨k,hk,rfl,ht,hb⟩:=hrel;have HT:=hideIt ht;have HB:=hideIt hb;clear ht hb;by_cases hkl:k < ord.length
  ·obtain⟨b,off,rfl,hcell⟩:=HV.out wr HB.out k hkl;obtain⟨n,hn,hon,hop⟩:=HVB.out wr HB.out k hkl;have HON:=hideIt hon;have HOPN:=hideIt hop;rw[hon] at hcell;clear hon hop;go_wp2
   go_loopw [20] (fun i wy=>∃m:Nat,m≤k∧i=.int .i64 m∧TimelyAt ops ord k m∧Below w.heap.size w wy) (fun i _=>k - (intOf i).toNat)
   case atStart=>exact⟨0,by omega,rfl,timelyAt_zero _ _ _,HB.out⟩
   case round=>
    obtain⟨m,hm',rfl,hta,hby⟩:=hrel;have HTA:=hideIt hta;have HBY:=hideIt hby;clear hta hby;by_cases hmk:m < k
    ·obtain⟨b2,off2,he2,hcell2⟩:=HV.out _ HBY.out m (by omega);obtain⟨rfl,rfl⟩:b2=b∧off2=off:=by simp at he2;exact⟨he2.1.symm,he2.2.symm⟩
     clear he2;obtain⟨n2,hn2,hon2,hop2⟩:=HVB.out _ HBY.out m (by omega);rw[hon2] at hcell2;obtain⟨bo,offo,rfl,hopn⟩:=HOP.out n hn;obtain⟨bo2,offo2,he2,hopn2⟩:=HOP.out n2 hn2;obtain⟨rfl,rfl⟩:bo2=bo∧offo2=offo:=by simp at he2;exact⟨he2.1.symm,he2.2.symm⟩
     clear he2;obtain⟨c0,c1,c2,c3,c4,c5,c6,c7⟩:=hopn _ HBY.out;obtain⟨d0,d1,d2,d3,d4,d5,d6,d7⟩:=hopn2 _ HBY.out;have HX:Hid (∀w2,Below wr.drew.heap.size wr.drew w2→OpAt w2 bo2 (offo2+n*8) ops[n]):=hideIt (fun w2 h2=>hopn w2 (belJ (HBY.out.drew) h2));have HY:Hid (∀w2,Below wr.drew.heap.size wr.drew w2→OpAt w2 bo2 (offo2+n2*8) ops[n2]):=hideIt (fun w2 h2=>hopn2 w2 (belJ (HBY.out.drew) h2));clear hopn hopn2;have HBE:Hid (beforeB (opI ops ord[k]) (opI ops ord[m])=beforeB ops[n] ops[n2]):=hideIt (by rw[HOPN.out,hop2]);have HC:=hideIt (fun W=>before_any ops[n] ops[n2] W);unfold Opn.agg at HC;clear hop2 hon2;have i1:(0:Int)≤(n:Int):=by omega
     have i2:(n:Int) < (ops.length:Int):=by omega
     have i3:(0:Int)≤(n2:Int):=by omega
     have i4:(n2:Int) < (ops.length:Int):=by omega
     cases hbe:beforeB ops[n] ops[n2]
     ·rw[hbe] at HC HBE;clear hbe;go_wp2_with fail
      go_region_held3 (fun w'=>w'.cell? ⟨bo2,offo2+n*8,none⟩=some (.int .i64 ops[n].p)∧w'.cell? ⟨bo2,offo2+n*8+1,none⟩=some (.int .i64 ops[n].k)∧w'.cell? ⟨bo2,offo2+n*8+2,none⟩=some (.int .i64 ops[n].d)∧w'.cell? ⟨bo2,offo2+n*8+3,none⟩=some (.int .i64 ops[n].a)∧w'.cell? ⟨bo2,offo2+n*8+4,none⟩=some (.int .i64 ops[n].b)∧w'.cell? ⟨bo2,offo2+n*8+5,none⟩=some (.int .i64 ops[n].r)∧w'.cell? ⟨bo2,offo2+n*8+6,none⟩=some (.int .i64 ops[n].c)∧w'.cell? ⟨bo2,offo2+n*8+7,none⟩=some (.int .i64 ops[n].e)∧w'.cell? ⟨bo2,offo2+n2*8,none⟩=some (.int .i64 ops[n2].p)∧w'.cell? ⟨bo2,offo2+n2*8+1,none⟩=some (.int .i64 ops[n2].k)∧w'.cell? ⟨bo2,offo2+n2*8+2,none⟩=some (.int .i64 ops[n2].d)∧w'.cell? ⟨bo2,offo2+n2*8+3,none⟩=some (.int .i64 ops[n2].a)∧w'.cell? ⟨bo2,offo2+n2*8+4,none⟩=some (.int .i64 ops[n2].b)∧w'.cell? ⟨bo2,offo2+n2*8+5,none⟩=some (.int .i64 ops[n2].r)∧w'.cell? ⟨bo2,offo2+n2*8+6,none⟩=some (.int .i64 ops[n2].c)∧w'.cell? ⟨bo2,offo2+n2*8+7,none⟩=some (.int .i64 ops[n2].e)) (go_keep)
       (first | (go_at_call 86;refine(HC.out _).mono ?_;rintro e w2 ⟨rfl,hb2⟩;have HB2:=hideIt hb2;obtain⟨p0,p1,p2,p3,p4,p5,p6,p7⟩:=HX.out w2 hb2;obtain⟨q0,q1,q2,q3,q4,q5,q6,q7⟩:=HY.out w2 hb2;clear hb2))
      go_wp2
      go_roundw
      case rel=>exact⟨m+1,by omega,by go_num,HTA.out.succ hkl hmk HBE.out,belJ HBY.out.drew HB2.out⟩
      case measure=>simp[intOf];omega
     ·rw[hbe] at HC HBE;clear hbe;go_wp2_with fail
      go_region_held3 (fun w'=>w'.cell? ⟨bo2,offo2+n*8,none⟩=some (.int .i64 ops[n].p)∧w'.cell? ⟨bo2,offo2+n*8+1,none⟩=some (.int .i64 ops[n].k)∧w'.cell? ⟨bo2,offo2+n*8+2,none⟩=some (.int .i64 ops[n].d)∧w'.cell? ⟨bo2,offo2+n*8+3,none⟩=some (.int .i64 ops[n].a)∧w'.cell? ⟨bo2,offo2+n*8+4,none⟩=some (.int .i64 ops[n].b)∧w'.cell? ⟨bo2,offo2+n*8+5,none⟩=some (.int .i64 ops[n].r)∧w'.cell? ⟨bo2,offo2+n*8+6,none⟩=some (.int .i64 ops[n].c)∧w'.cell? ⟨bo2,offo2+n*8+7,none⟩=some (.int .i64 ops[n].e)∧w'.cell? ⟨bo2,offo2+n2*8,none⟩=some (.int .i64 ops[n2].p)∧w'.cell? ⟨bo2,offo2+n2*8+1,none⟩=some (.int .i64 ops[n2].k)∧w'.cell? ⟨bo2,offo2+n2*8+2,none⟩=some (.int .i64 ops[n2].d)∧w'.cell? ⟨bo2,offo2+n2*8+3,none⟩=some (.int .i64 ops[n2].a)∧w'.cell? ⟨bo2,offo2+n2*8+4,none⟩=some (.int .i64 ops[n2].b)∧w'.cell? ⟨bo2,offo2+n2*8+5,none⟩=some (.int .i64 ops[n2].r)∧w'.cell? ⟨bo2,offo2+n2*8+6,none⟩=some (.int .i64 ops[n2].c)∧w'.cell? ⟨bo2,offo2+n2*8+7,none⟩=some (.int .i64 ops[n2].e)) (go_keep)
       (first | (go_at_call 86;refine(HC.out _).mono ?_;rintro e w2 ⟨rfl,hb2⟩;have HB2:=hideIt hb2;obtain⟨p0,p1,p2,p3,p4,p5,p6,p7⟩:=HX.out w2 hb2;obtain⟨q0,q1,q2,q3,q4,q5,q6,q7⟩:=HY.out w2 hb2;clear hb2))
      go_wp2;go_ret;exact toldNo (fun h=>by have:=h k hkl hkl m hmk;rw[HBE.out] at this;cases this) (belJ HBY.out.drew HB2.out)
    ·have HE:Hid (TimelyTo ops ord (k+1)):=hideIt (HT.out.succ (by
      have:m=k:=by omega
      exact this▸HTA.out))
     go_wp2
     go_roundw
     case rel=>exact⟨k+1,by omega,by go_num,HE.out,HBY.out⟩
     case measure=>simp[intOf];omega
  ·have HE:Hid (TimelyTo ops ord ord.length):=hideIt (by
    have:k=ord.length:=by omega
    exact this▸HT.out)
   go_wp2;go_ret;exact toldYes HE.out HB.out
end Go.Proofs.YtjpklmighoondaaGreatDoor
