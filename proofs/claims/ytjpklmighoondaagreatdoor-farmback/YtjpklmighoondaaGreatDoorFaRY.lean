/-
  A plan that is tried, walked: its report.
  The reader's key and write; how its steps are the plain ones.
-/
import Derived.Test.YtjpklmighoondaaGreatDoorFieldsQY
import Derived.Test.YtjpklmighoondaaGreatDoorFaEY
import Derived.Test.YtjpklmighoondaaGreatDoorGatherY
import Derived.Test.YtjpklmighoondaaGreatDoorJudgeWY
import Derived.Test.YtjpklmighoondaaGreatDoorRdBY
namespace Go.Proofs.YtjpklmighoondaaGreatDoor.Fa
open Go.RowKit
theorem hist_count (l:List Ev):∀(n:Nat) (qs:List Int),qs.Nodup→(∀q∈qs,((hist l n).busy q).isSome=true)→(hist l n).done.length+qs.length≤(l.take n).countP fun e=>e.t==1
 | 0,qs,_,h=>by
  cases qs with
  | nil=>exact Nat.le_refl _
  | cons q qs=>exact absurd (h q (by simp)) (fun e=>by cases e)
 | n+1,qs,hd,h=>by
  by_cases hn:n < l.length
  ·have e1:l[n]?=some l[n]:=List.getElem?_eq_getElem hn;have e2:hist l (n+1)=seeS n l[n] (hist l n):=by
    show (match l[n]? with | some e=>seeS n e (hist l n) | none=>hist l n)=_;rw[e1]
   have ih:=hist_count l n;rw[e2] at h ⊢;rw[List.take_add_one,e1,List.countP_append];have e3: [l[n]].countP (fun e=>e.t==1)=if l[n].t=1 then 1 else 0:=by
    rw[List.countP_singleton];by_cases ht:l[n].t=1<;>simp[ht]
   show _≤(l.take n).countP _+ [l[n]].countP _;rw[e3];generalize l[n]=e at*
   generalize hist l n=s at*
   unfold seeS at h ⊢;by_cases ht:e.t=1
   ·rw[if_pos ht] at h ⊢;rw[if_pos ht];have h1:=ih (qs.erase e.p) (hd.erase _) fun q hq=>by
     have hne:q≠e.p:=fun e'=>(List.Nodup.mem_erase_iff hd).1 hq |>.1 e'
     have:((setO s.busy e.p (some (e.op n))) q).isSome=true:=h q (List.mem_of_mem_erase hq);unfold setO at this
     rwa [if_neg hne] at this
    have h2:qs.length≤(qs.erase e.p).length+1:=by
     rw[List.length_erase]
     split<;>omega
    show s.done.length+qs.length≤_;omega
   ·rw[if_neg ht] at h ⊢;rw[if_neg ht];cases hb:s.busy e.p with
    | none=>rw[hb] at h;exact ih qs hd h
    | some o=>
     rw[hb] at h;have key:∀(h':∀q∈qs,((setO s.busy e.p none) q).isSome=true),s.done.length+(qs.length+1)≤(l.take n).countP fun e=>e.t==1:=fun h'=>by
      refine ih (e.p::qs) (List.nodup_cons.2 ⟨fun hm=>?_,hd⟩) fun q hq=>?_
      ·have:=h' e.p hm;unfold setO at this;rw[if_pos rfl] at this;cases this
      ·rcases List.mem_cons.1 hq with rfl | hq
       ·rw[hb];rfl
       ·have:=h' q hq;unfold setO at this
        split at this
        ·cases this
        ·exact this
     dsimp only at h ⊢;by_cases h2:e.t=2
     ·rw[if_pos h2] at h ⊢;have:=key h;show (s.done++ [_]).length+qs.length≤_;rw[List.length_append,List.length_singleton];omega
     ·rw[if_neg h2] at h ⊢;by_cases h4:e.t=4
      ·rw[if_pos h4] at h ⊢;have:=key h;show (s.done++ [_]).length+qs.length≤_;rw[List.length_append,List.length_singleton];omega
      ·rw[if_neg h4] at h ⊢;have:=key h;show s.done.length+qs.length≤_;omega
  ·have e1:l[n]?=none:=List.getElem?_eq_none (by omega);have e2:hist l (n+1)=hist l n:=by
    show (match l[n]? with | some e=>seeS n e (hist l n) | none=>hist l n)=_;rw[e1]
   rw[e2] at h ⊢;have:=hist_count l n qs hd h;rw[List.take_of_length_le (by omega)] at this ⊢;exact this
theorem ops_count {P:St.Pst} {L:List Opn} (h:OpsOf (hist (P.evs.map toEv) (P.evs.map toEv).length) L):L.length≤c1 P:=by
 obtain⟨qs,hd,hq,hp,_⟩:=h;have h1:=hist_count (P.evs.map toEv) (P.evs.map toEv).length qs hd fun q hm=>(hq q).1 hm
 rw[List.take_length,List.countP_map] at h1;have h2:(qs.filterMap (hist (P.evs.map toEv) (P.evs.map toEv).length).busy).length≤qs.length:=List.length_filterMap_le _ _;have h3:=hp.length_eq;rw[List.length_append] at h3;have h4:P.evs.countP ((fun e:Ev=>e.t==1) ∘ toEv)=c1 P:=rfl;omega
theorem own_below {W Z:World} {base:Nat} {e:TypeId} {size:Nat} {v:Value} {n:Nat} {xs:List Value} (h:W.ownsRow base e size v n xs) (hb:Below W.heap.size W Z):Z.ownsRow base e size v n xs:=by
 obtain⟨hl,h | ⟨g,cap,cur,rfl,h0,h1,h2⟩⟩:=h
 ·exact⟨hl,.inl h⟩
 ·exact⟨hl,.inr ⟨g,cap,cur,rfl,h0,(hb.block g (lt_of_heap h1)).trans h1,h2⟩⟩
theorem own_oth {W Z:World} {base:Nat} {e:TypeId} {size:Nat} {v:Value} {n:Nat} {xs:List Value} (h:W.ownsRow base e size v n xs) (hs:∀b,base≤b→Z.heap[b]?=W.heap[b]?):Z.ownsRow base e size v n xs:=by
 obtain⟨hl,h | ⟨g,cap,cur,rfl,h0,h1,h2⟩⟩:=h
 ·exact⟨hl,.inl h⟩
 ·exact⟨hl,.inr ⟨g,cap,cur,rfl,h0,(hs g h0).trans h1,h2⟩⟩
def rep0:Value:=.agg #[.string ⟨#[]⟩,.slice none 0 0,.int .i64 0,.slice none 0 0,.int .i64 0]
def set5 (w:World) (G:Nat) (a b c d e:Value):World:=((((w.setCell ⟨G,0,none⟩ a).setCell ⟨G,1,none⟩ b).setCell ⟨G,2,none⟩ c).setCell ⟨G,3,none⟩ d).setCell ⟨G,4,none⟩ e
theorem set5_row {w:World} {G:Nat} {a b c d e a' b' c' d' e':Value} (h:w.heap[G]?=some (.cells #[a',b',c',d',e'] 36 (0,0))):(set5 w G a b c d e).heap[G]?=some (.cells #[a,b,c,d,e] 36 (0,0)):=by
 unfold set5;have a1:=heap_setCell_same w G 0 _ 36 a h;have a2:=heap_setCell_same _ G 1 _ 36 b a1;have a3:=heap_setCell_same _ G 2 _ 36 c a2;have a4:=heap_setCell_same _ G 3 _ 36 d a3;exact heap_setCell_same _ G 4 _ 36 e a4
theorem set5_oth (w:World) (G:Nat) (a b c d e:Value) (x:Nat) (hx:x≠G):(set5 w G a b c d e).heap[x]?=w.heap[x]?:=by
 unfold set5;rw[Below.heap_setCell _ _ _ x hx,Below.heap_setCell _ _ _ x hx,Below.heap_setCell _ _ _ x hx,Below.heap_setCell _ _ _ x hx,Below.heap_setCell _ _ _ x hx]
theorem set5_bel {B:Nat} {w W:World} (h:Below B w W) {G:Nat} (hG:B≤G) (a b c d e:Value):Below B w (set5 W G a b c d e):=
 ((((h.setCell (p:=⟨G,0,none⟩) hG a).setCell (p:=⟨G,1,none⟩) hG b).setCell (p:=⟨G,2,none⟩) hG c).setCell (p:=⟨G,3,none⟩) hG d).setCell (p:=⟨G,4,none⟩) hG e
theorem sizeR:(Tryz.prog.info? 36).map (·.size)=some 5:=by kernel_rfl
theorem loadR {w:World} {g:Nat} {a b c d e:Value} (h:w.heap[g]?=some (.cells #[a,b,c,d,e] 36 (0,0))):(loadVar 36 ⟨g,0,none⟩).run Tryz.prog w=.ok (.agg #[a,b,c,d,e]) w:=
 run_loadVar_mid w g 0 36 [a,b,c,d,e] _ (fun j y hy=>by
  match j with
  | 0=>simp at hy;subst hy;rw[cell_of_row _ _ _ _ 36 _ h];rfl
  | 1=>simp at hy;subst hy;rw[cell_of_row _ _ _ _ 36 _ h];rfl
  | 2=>simp at hy;subst hy;rw[cell_of_row _ _ _ _ 36 _ h];rfl
  | 3=>simp at hy;subst hy;rw[cell_of_row _ _ _ _ 36 _ h];rfl
  | 4=>simp at hy;subst hy;rw[cell_of_row _ _ _ _ 36 _ h];rfl
  | j+5=>simp at hy) Tryz.underlying36 rfl sizeR
def RepOk (bud:Int) (P:St.Pst):Prop:=P.evs.length≤120∧FineH (P.evs.map toEv) (P.evs.map toEv).length∧∀L,OpsOf (hist (P.evs.map toEv) (P.evs.map toEv).length) L→L.length≤40→LcTold 1 bud L 0
def RepGood (ti:ByteArray) (bud:Int) (P:St.Pst) (W:World) (e:Ending) (w':World):Prop:=
 Below W.heap.size W w'∧∃v' L,w'.ownsRow W.heap.size 54 7 v' P.evs.length (St.evCs P.evs)∧OpsOf (hist (P.evs.map toEv) (P.evs.map toEv).length) L∧L.length≤40∧
  ∃ov,e=.returned (.tuple #[.agg #[.string ti,v',.int .i64 ((searchM (srB 1 L bud.toNat)).code:Int),ov,.int .i64 ((searchM (srB 1 L bud.toNat)).ent.length:Int)],.nilIface])∧
   ((searchM (srB 1 L bud.toNat)).code=1→w'.ownsRow W.heap.size 3 1 ov (searchM (srB 1 L bud.toNat)).ord.length (ordV (searchM (srB 1 L bud.toNat)).ord))∧((searchM (srB 1 L bud.toNat)).code≠1→ov=.slice none 0 0)
def RepTold (ti:ByteArray) (bud:Int) (P:St.Pst) (W:World) (e:Ending) (w':World):Prop:=
 (∃T x,e=.returned (.tuple #[rep0,.iface T x])∧¬RepOk bud P∧Below W.heap.size W w')∨(RepOk bud P∧RepGood ti bud P W e w')
theorem opsOf_same {l:List Ev} {n:Nat} {s:Hs} {L L':List Opn} (I:Inv l n s) (h:OpsOf s L) (h':OpsOf s L'):L=L':=by
 have r:=opsOf_rising I h;have r':=opsOf_rising I h';obtain⟨qs,hd,hq,hp,_⟩:=h;obtain⟨qs',hd',hq',hp',_⟩:=h';have hqq:qs.Perm qs':=(List.perm_ext_iff_of_nodup hd hd').2 fun a=>(hq a).trans (hq' a).symm
 have hpp:L.Perm L':=hp.trans (((List.Perm.refl _).append (hqq.filterMap _)).trans hp'.symm);exact List.Perm.eq_of_pairwise (le:=fun x y:Opn=>x.c < y.c) (fun a b _ _ h1 h2=>absurd h1 (by omega)) (r.imp fun h=>h.1) (r'.imp fun h=>h.1) hpp
theorem ops_either {l:List Ev} {e:Ending} {w w':World} (h:OpsTold l e w'∧Below w.heap.size w w'):
  ((∃T x,e=.returned (.tuple #[.slice none 0 0,.iface T x]))∧¬(l.length≤120∧FineH l l.length)∧Below w.heap.size w w')∨
  (l.length≤120∧FineH l l.length∧∃a cap L,e=.returned (.tuple #[.slice a L.length cap,.nilIface])∧OpsOf (hist l l.length) L∧OpsIn w' (.slice a L.length cap) L∧L.length≤1000∧Below w.heap.size w w'):=by
 by_cases hg:l.length≤120∧FineH l l.length
 ·exact .inr ⟨hg.1,hg.2,ops_fine hg.2 hg.1 h⟩
 ·obtain⟨⟨_,rfl⟩ | ⟨k,g,n,hk,_,h2,h3,rfl,_⟩ | ⟨h1,h2,_⟩,hb⟩:=h
  ·exact .inl ⟨⟨_,_,rfl⟩,hg,hb⟩
  ·exact .inl ⟨⟨_,_,rfl⟩,hg,hb⟩
  ·exact absurd ⟨h1,h2⟩ hg
theorem repOk_of {bud:Int} {P:St.Pst} {L:List Opn} (h1:P.evs.length≤120) (h2:FineH (P.evs.map toEv) (P.evs.map toEv).length) (h3:OpsOf (hist (P.evs.map toEv) (P.evs.map toEv).length) L) (h4:LcTold 1 bud L 0):RepOk bud P:=
 ⟨h1,h2,fun L' hL' _=>by rw[opsOf_same (inv_hist _ _ (Nat.le_refl _) h2) hL' h3];exact h4⟩
section
variable {w0 W W' : World} {Bt : Nat} {K : St.StK} {v : Value} {bs : List Nat} {ti : ByteArray} {bud : Int} {T : Trl} {P0 : St.Pst} {S0 : Sto}
set_option maxRecDepth 100000 in
set_option maxHeartbeats 8000000 in
theorem report_any (h:TrW w0 W Bt K v bs ti bud T) (h9:T.p.evs.length≤9000) (hc:c1 T.p≤40) (hK:KnownAt W):
  Calls Tryz.prog 24 #[.pointer (some ⟨Bt,0,none⟩)] W (RepTold ti bud T.p W):=by
 have hpos:0 < W.heap.size:=World.block_lt_of_cell? W ⟨0,0*13+0,none⟩ (hK 0 0 (by decide) (by decide));have HB0:Hid (Below W.heap.size W (W.alloc (.cells #[.string ⟨#[]⟩,.slice none 0 0,.int .i64 0,.slice none 0 0,.int .i64 0] 36))):=hideIt (St.belA (Below.refl _ _) _);have hR0:(W.alloc (.cells #[.string ⟨#[]⟩,.slice none 0 0,.int .i64 0,.slice none 0 0,.int .i64 0] 36)).heap[W.heap.size]?=some (.cells #[.string ⟨#[]⟩,.slice none 0 0,.int .i64 0,.slice none 0 0,.int .i64 0] 36 (0,0)):=heap_alloc_new W _;have HH:=hideIt h;have HE:=hideIt (fun Z (hZ:Below W.heap.size W Z)=>St.events_any (h.below hZ).st (by omega));have HKz:Hid (∀Z,Below W.heap.size W Z→KnownAt Z):=fun Z hZ=>hK.below hpos hZ
 have HA:Hid (∀Z,Below W.heap.size W Z→Z.cell? ⟨Bt,5,none⟩=some (.string ti)∧Z.cell? ⟨Bt,7,none⟩=some (.int .i64 bud)∧Z.cell? ⟨Bt,8,none⟩=some (.pointer (some ⟨K.B,0,none⟩))):=fun Z hZ=>⟨(h.below hZ).c.c5,(h.below hZ).c.c7,(h.below hZ).c.c8⟩
 have HC:Hid (∀L,OpsOf (hist (T.p.evs.map toEv) (T.p.evs.map toEv).length) L→L.length≤40):=fun L hL=>Nat.le_trans (ops_count hL) hc
 have H9:=hideIt h9;clear h hK hc h9;generalize T.p=P at*
 go_enter Tryz.func24,Tryz.ntmps24
 obtain⟨a5,a7,a8⟩:=HA.out _ HB0.out;go_wp2_with fail
 refine(HE.out _ HB0.out).mono ?_;rintro e W1 ⟨ve,rfl,hoe,hb1⟩;obtain⟨ae,ce,rfl,hin⟩:=evs_in hoe;have HO:Hid (Calls Tryz.prog 15 #[.slice ae (P.evs.map toEv).length ce] W1 fun e w'=>((∃T x,e=.returned (.tuple #[.slice none 0 0,.iface T x]))∧¬((P.evs.map toEv).length≤120∧FineH (P.evs.map toEv) (P.evs.map toEv).length)∧Below W1.heap.size W1 w')∨
   ((P.evs.map toEv).length≤120∧FineH (P.evs.map toEv) (P.evs.map toEv).length∧∃a cap L,e=.returned (.tuple #[.slice a L.length cap,.nilIface])∧OpsOf (hist (P.evs.map toEv) (P.evs.map toEv).length) L∧OpsIn w' (.slice a L.length cap) L∧L.length≤1000∧Below W1.heap.size W1 w')):=by
  have hl:(P.evs.map toEv).length≤9000:=by rw[List.length_map];exact H9.out
  by_cases h120:120 < (P.evs.map toEv).length
  ·exact(evOps_long _ ae ce W1 h120 (by unfold maxLen;omega)).mono fun e w' h=>ops_either h
  rcases hin with h0 | ⟨b,rfl,hb,hE⟩
  ·rw[h0];exact(evOps_none ae ce W1).mono fun e w' h=>ops_either h
  ·exact(evOps_some _ b 0 ce W1 (by omega) hE hb).mono fun e w' h=>ops_either h
 have HB1:=hideIt (St.belJ HB0.out hb1);have hR1:=(hb1.block W.heap.size (lt_of_heap hR0)).trans hR0;have HOe:=hideIt hoe;clear hoe hb1 HE hin H9 hR0;have HR1:=hideIt hR1;clear hR1;generalize hlv:(P.evs.map toEv)=lv at*
 have HLv:=hideIt hlv;clear hlv;go_wp2_with fail
 refine HO.out.mono ?_;clear HO;rintro e W2 (⟨⟨Ty,x,rfl⟩,hbad,hb2⟩ | ⟨h120,hF,ao,co,L,rfl,hO,hIn,hL1000,hb2⟩)
 ·have HBad:Hid (¬RepOk bud P):=fun h=>hbad (by rw[←HLv.out];exact⟨by rw[List.length_map];exact h.1,h.2.1⟩)
  have hR2:=(hb2.block W.heap.size (lt_of_heap HR1.out)).trans HR1.out;have HB2:=hideIt (St.belJ HB1.out hb2);have HR2:=hideIt hR2;obtain⟨r0,r1,r2,r3,r4⟩:W2.cell? ⟨W.heap.size,0,none⟩=some (.string ⟨#[]⟩)∧W2.cell? ⟨W.heap.size,1,none⟩=some (.slice none 0 0)∧W2.cell? ⟨W.heap.size,2,none⟩=some (.int .i64 0)∧W2.cell? ⟨W.heap.size,3,none⟩=some (.slice none 0 0)∧W2.cell? ⟨W.heap.size,4,none⟩=some (.int .i64 0):=
   ⟨by rw[cell_of_row _ _ _ _ 36 _ hR2];rfl,by rw[cell_of_row _ _ _ _ 36 _ hR2];rfl,by rw[cell_of_row _ _ _ _ 36 _ hR2];rfl,by rw[cell_of_row _ _ _ _ 36 _ hR2];rfl,by rw[cell_of_row _ _ _ _ 36 _ hR2];rfl⟩
  have f:∀i,W2.frozen? ⟨W.heap.size,i,none⟩=false:=fun i=>frozen_of_row _ _ _ _ 36 hR2
  have f0:=f 0;have f1:=f 1;have f2:=f 2;have f3:=f 3;have f4:=f 4;clear f hbad hb2 hR2;go_wp2;change bodyPost _ _ _ _ _ (set5 W2 W.heap.size (.string ⟨#[]⟩) (.slice none 0 0) (.int .i64 0) (.slice none 0 0) (.int .i64 0));refine bodyPost_ret (Gn.results_two rfl _ _ _ _ rfl (loadR (set5_row HR2.out))) rfl ?_;exact .inl ⟨_,_,rfl,HBad.out,set5_bel HB2.out (Nat.le_refl _) _ _ _ _ _⟩
 have HOk:Hid (LcTold 1 bud L 0→RepOk bud P):=fun h=>by
  rw[←HLv.out] at h120 hF hO;exact repOk_of (by rw[List.length_map] at h120;exact h120) hF hO h
 have HNo:Hid (¬LcTold 1 bud L 0→¬RepOk bud P):=fun h hk=>by
  rw[←HLv.out] at hO;exact h (hk.2.2 L hO (HC.out L (by rw[←HLv.out];exact hO)))
 have h40:=HC.out L hO;have hb02:=St.belJ HB1.out hb2;have HB2:=hideIt hb02;have HR2:=hideIt ((hb2.block W.heap.size (lt_of_heap HR1.out)).trans HR1.out);have HOe2:=hideIt (own_below HOe.out hb2);have HC2:=hideIt (check_any 1 bud L (.slice ao L.length co) W2 (by omega) hIn (HKz.out _ hb02));have HOO:=hideIt hO;have H40:=hideIt h40;obtain⟨a5,a7,a8⟩:=HA.out _ hb02;clear hO hIn hb2 h40 hb02 HC HB1 HOe h120 hF;go_wp2_with fail
 refine HC2.out.mono ?_;clear HC2;rintro e W3 ⟨hb3,⟨m,hm0,hl8,rfl⟩ | ⟨hlc,ov,rfl,ho1,ho2⟩⟩
 ·have HBad:Hid (¬RepOk bud P):=HNo.out fun h=>hm0 (lcTold_one hl8 h)
  have hR20:=(hb3.block W.heap.size (lt_of_heap HR2.out)).trans HR2.out;have hXb:Below W3.heap.size W3 (W3.alloc (.cells #[.int .i64 0,.slice none 0 0,.int .i64 0] 34)):=St.belA (Below.refl _ _) _;have hR2:=(hXb.block W.heap.size (lt_of_heap hR20)).trans hR20;have HB3:=hideIt (St.belJ (St.belJ HB2.out hb3) hXb);have HR3:=hideIt hR2;obtain⟨r0,r1,r2,r3,r4⟩:(W3.alloc (.cells #[.int .i64 0,.slice none 0 0,.int .i64 0] 34)).cell? ⟨W.heap.size,0,none⟩=some (.string ⟨#[]⟩)∧(W3.alloc (.cells #[.int .i64 0,.slice none 0 0,.int .i64 0] 34)).cell? ⟨W.heap.size,1,none⟩=some (.slice none 0 0)∧(W3.alloc (.cells #[.int .i64 0,.slice none 0 0,.int .i64 0] 34)).cell? ⟨W.heap.size,2,none⟩=some (.int .i64 0)∧(W3.alloc (.cells #[.int .i64 0,.slice none 0 0,.int .i64 0] 34)).cell? ⟨W.heap.size,3,none⟩=some (.slice none 0 0)∧(W3.alloc (.cells #[.int .i64 0,.slice none 0 0,.int .i64 0] 34)).cell? ⟨W.heap.size,4,none⟩=some (.int .i64 0):=
   ⟨by rw[cell_of_row _ _ _ _ 36 _ hR2];rfl,by rw[cell_of_row _ _ _ _ 36 _ hR2];rfl,by rw[cell_of_row _ _ _ _ 36 _ hR2];rfl,by rw[cell_of_row _ _ _ _ 36 _ hR2];rfl,by rw[cell_of_row _ _ _ _ 36 _ hR2];rfl⟩
  have f:∀i,(W3.alloc (.cells #[.int .i64 0,.slice none 0 0,.int .i64 0] 34)).frozen? ⟨W.heap.size,i,none⟩=false:=fun i=>frozen_of_row _ _ _ _ 36 hR2
  have f0:=f 0;have f1:=f 1;have f2:=f 2;have f3:=f 3;have f4:=f 4;rw[toldV_some hm0];clear f hl8 hb3 hR2 hm0 hR20 hXb;go_wp2;change bodyPost _ _ _ _ _ (set5 _ W.heap.size (.string ⟨#[]⟩) (.slice none 0 0) (.int .i64 0) (.slice none 0 0) (.int .i64 0));refine bodyPost_ret (Gn.results_two rfl _ _ _ _ rfl (loadR (set5_row HR3.out))) rfl ?_;exact .inl ⟨_,_,rfl,HBad.out,set5_bel HB3.out (Nat.le_refl _) _ _ _ _ _⟩
 have HGood:=hideIt (HOk.out hlc);clear hlc HOk HNo;have hb03:=St.belJ HB2.out hb3;have HB3:=hideIt hb03;have HOe3:=hideIt (own_below HOe2.out hb3);obtain⟨oa,on,oc,rfl⟩:∃a n c,ov=.slice a n c:=by
  by_cases h1:(searchM (srB 1 L bud.toNat)).code=1
  ·obtain⟨a,c,e⟩:=St.ownsRow_slice (ho1 h1);exact⟨a,_,c,e⟩
  ·exact⟨none,0,0,ho2 h1⟩
 have HO1:=hideIt ho1;have HSz:=hideIt (lt_of_heap HR2.out);have HO2:=hideIt ho2;have hR3:W3.heap[W.heap.size]?=some (.cells #[.string ⟨#[]⟩,.slice none 0 0,.int .i64 0,.slice none 0 0,.int .i64 0] 36 (0,0)):=(hb3.block W.heap.size (lt_of_heap HR2.out)).trans HR2.out;clear hb3 ho1 ho2 HOe2 HB2 a7 a8 HR1 HR2;generalize hsr:(searchM (srB 1 L bud.toNat))=sr at*
 have HSr:=hideIt hsr;clear hsr;have hX:=St.belA hb03 (.cells #[.int .i64 (sr.code:Int),.slice oa on oc,.int .i64 (sr.ent.length:Int)] 34);have hXn:Below W3.heap.size W3 (W3.alloc (.cells #[.int .i64 (sr.code:Int),.slice oa on oc,.int .i64 (sr.ent.length:Int)] 34)):=St.belA (Below.refl _ _) _;have hRX:=(hXn.block W.heap.size (lt_of_heap hR3)).trans hR3;have hVX:(W3.alloc (.cells #[.int .i64 (sr.code:Int),.slice oa on oc,.int .i64 (sr.ent.length:Int)] 34)).heap[W3.heap.size]?=some (.cells #[.int .i64 (sr.code:Int),.slice oa on oc,.int .i64 (sr.ent.length:Int)] 34 (0,0)):=heap_alloc_new W3 _;have hne:W3.heap.size≠W.heap.size:=fun e=>by have:=lt_of_heap hR3;omega
 have HBX:=hideIt hX;have HOX:=hideIt (own_below HOe3.out hXn);have HO1X:=hideIt (fun h=>own_below (HO1.out h) hXn);have HRX:=hideIt hRX;have HVX:=hideIt hVX;have HNe:=hideIt hne;clear hX hXn hRX hVX hne hR3 hb03 HOe3 HO1 HB3 a5;go_upto_region 8 with fail
 generalize (W3.alloc (.cells #[.int .i64 (sr.code:Int),.slice oa on oc,.int .i64 (sr.ent.length:Int)] 34))=X at*
 obtain⟨a5,_,_⟩:=HA.out _ HBX.out;refine wp_region_held_drew (S:=fun Z=>Z.cell? ⟨Bt,5,none⟩=some (.string ti)∧Z.heap[W3.heap.size]?=some (.cells #[.int .i64 (sr.code:Int),.slice oa on oc,.int .i64 (sr.ent.length:Int)] 34 (0,0))) (by kernel_rfl) ⟨a5,HVX.out⟩ (fun hHeld=>?_);refine tkH 0 ?_ rfl ?_ ?_;rotate_left 1
 ·intro wz hwz;go_simp;all_goals with_reducible rfl
 simp only[Act.put,p1,p2,p3,p4,p5];refine tkH 1 ?_ rfl ?_ ?_;rotate_left 1
 ·intro wz hwz;go_simp;all_goals with_reducible rfl
 simp only[Act.put,p1,p2,p3,p4,p5,p6];refine tkH 2 ?_ rfl ?_ ?_;rotate_left 1
 ·intro wz hwz;go_simp;all_goals with_reducible rfl
 simp only[Act.put,p1,p2,p3,p4,p5,p6];refine tkH 3 ?_ rfl ?_ ?_;rotate_left 1
 ·intro wz hwz;go_simp;all_goals with_reducible rfl
 simp only[Act.put,p1,p2,p3,p4,p5,p6];refine tkH 4 ?_ rfl ?_ ?_;rotate_left 1
 ·intro wz hwz;obtain⟨z5,zh⟩:=hwz;go_simp;all_goals with_reducible rfl
 simp only[Act.put,p1,p2,p3,p4,p5,p6];refine tkH 5 ?_ rfl ?_ ?_;rotate_left 1
 ·intro wz hwz;go_simp;all_goals with_reducible rfl
 simp only[Act.put,p1,p2,p3,p4,p5,p6];refine tkH 6 ?_ rfl ?_ ?_;rotate_left 1
 ·intro wz hwz;obtain⟨z5,zh⟩:=hwz;obtain⟨z0,z1,z2⟩:=Gn.blk3 zh;clear zh;go_simp;all_goals with_reducible rfl
 simp only[Act.put,p1,p2,p3,p4,p5,p6];refine tkH 7 ?_ rfl ?_ ?_;rotate_left 1
 ·intro wz hwz;go_simp;all_goals with_reducible rfl
 simp only[Act.put,p1,p2,p3,p4,p5,p6];obtain⟨r0,r1,r2,r3,r4⟩:X.cell? ⟨W.heap.size,0,none⟩=some (.string ⟨#[]⟩)∧X.cell? ⟨W.heap.size,1,none⟩=some (.slice none 0 0)∧X.cell? ⟨W.heap.size,2,none⟩=some (.int .i64 0)∧X.cell? ⟨W.heap.size,3,none⟩=some (.slice none 0 0)∧X.cell? ⟨W.heap.size,4,none⟩=some (.int .i64 0):=
  ⟨by rw[cell_of_row _ _ _ _ 36 _ HRX.out];rfl,by rw[cell_of_row _ _ _ _ 36 _ HRX.out];rfl,by rw[cell_of_row _ _ _ _ 36 _ HRX.out];rfl,by rw[cell_of_row _ _ _ _ 36 _ HRX.out];rfl,by rw[cell_of_row _ _ _ _ 36 _ HRX.out];rfl⟩
 have f:∀i,X.frozen? ⟨W.heap.size,i,none⟩=false:=fun i=>frozen_of_row _ _ _ _ 36 HRX.out
 have f0:=f 0;have f1:=f 1;have f2:=f 2;have f3:=f 3;have f4:=f 4;clear f;refine wpAnyH_ready (rs:= [8]) (by kernel_rfl) (by simp) (AllReadyH.cons rfl (fun K9 hK=>?_) AllReadyH.nil);go_simp;change K9 _ (set5 X.drew W.heap.size (.string ti) (.slice ae lv.length ce) (.int .i64 (sr.code:Int)) (.slice oa on oc) (.int .i64 (sr.ent.length:Int)));have hBt:Bt≠W.heap.size:=by have:=HH.out.lt;omega
 have hs5:(set5 X.drew W.heap.size (.string ti) (.slice ae lv.length ce) (.int .i64 (sr.code:Int)) (.slice oa on oc) (.int .i64 (sr.ent.length:Int))).cell? ⟨Bt,5,none⟩=some (.string ti):=(World.cell?_of_block (a:=⟨Bt,5,none⟩) (set5_oth X.drew W.heap.size _ _ _ _ _ Bt hBt)).trans a5;have hsh:(set5 X.drew W.heap.size (.string ti) (.slice ae lv.length ce) (.int .i64 (sr.code:Int)) (.slice oa on oc) (.int .i64 (sr.ent.length:Int))).heap[W3.heap.size]?=some (.cells #[.int .i64 (sr.code:Int),.slice oa on oc,.int .i64 (sr.ent.length:Int)] 34 (0,0)):=(set5_oth X.drew W.heap.size _ _ _ _ _ _ HNe.out).trans HVX.out;have hld:=loadR (set5_row (w:=X.drew) (G:=W.heap.size) (a:=.string ti) (b:=.slice ae lv.length ce) (c:=.int .i64 (sr.code:Int)) (d:=.slice oa on oc) (e:=.int .i64 (sr.ent.length:Int)) HRX.out);have hbl:=set5_bel (HBX.out.drew) (Nat.le_refl W.heap.size) (.string ti) (.slice ae lv.length ce) (.int .i64 (sr.code:Int)) (.slice oa on oc) (.int .i64 (sr.ent.length:Int));have HLd:=hideIt hld;have HBl:=hideIt hbl;have HOw:=hideIt (fun (b:Nat) (hb:b≠W.heap.size)=>set5_oth X.drew W.heap.size (.string ti) (.slice ae lv.length ce) (.int .i64 (sr.code:Int)) (.slice oa on oc) (.int .i64 (sr.ent.length:Int)) b hb);clear hld hbl r0 r1 r2 r3 r4 f0 f1 f2 f3 f4 hBt;generalize set5 X.drew W.heap.size (.string ti) (.slice ae lv.length ce) (.int .i64 (sr.code:Int)) (.slice oa on oc) (.int .i64 (sr.ent.length:Int))=Y at*
 refine hK.out _ _ ⟨hs5,hsh⟩ (fun hHeld=>?_);clear hK K9 hs5 hsh;refine tkH 9 ?_ rfl ?_ ?_;rotate_left 1
 ·intro wz hwz;go_simp;all_goals with_reducible rfl
 simp only[Act.put,p1,p2,p3,p4,p5,p6];refine wpAnyH_done (by kernel_rfl) ?_ _;go_wp2;refine bodyPost_ret (Gn.results_two rfl _ _ _ _ rfl HLd.out) rfl ?_;refine .inr ⟨HGood.out,HBl.out,_,L,ownsRow_base (own_oth HOX.out fun b hb=>HOw.out b (by rw[World.size_alloc] at hb;omega)) (by rw[World.size_alloc];omega),by rw[HLv.out];exact HOO.out,H40.out,_,by rw[HSr.out];rfl,?_,?_⟩
 ·rw[HSr.out];exact fun h=>ownsRow_base (own_oth (HO1X.out h) fun b hb=>HOw.out b (by have:=HSz.out;omega)) (by have:=HSz.out;omega)
 ·rw[HSr.out];exact HO2.out
end
end Go.Proofs.YtjpklmighoondaaGreatDoor.Fa
namespace Go.Proofs.YtjpklmighoondaaGreatDoor.Gn
open Go.RowKit
structure SgEnd (L : List Bt) : Prop where
 last:∀a,a < L.length→(L.getD a []= []↔a+1=L.length)
theorem SgEnd.pass {L:List Bt} (h:SgEnd L) {a:Nat} (ha:a < L.length) (hne:L.getD a []≠ []):a+1 < L.length:=by
 have:=mt (h.last a ha).2 hne;omega
theorem getD_lt {L:List Bt} {a:Nat} (h:a < L.length):L.getD a []=L[a]:=by rw[List.getD_eq_getElem?_getD,List.getElem?_eq_getElem h];rfl
theorem drop_get {L:List Bt} {a:Nat} (h:a < L.length):L.drop a=L.getD a []::L.drop (a+1):=by
 rw[List.drop_eq_getElem_cons h,getD_lt h]
theorem passS_ok {L:List Bt} {a:Nat} (h:a+1 < L.length):passS L.length a 0=a+1:=by unfold passS;rw[if_pos ⟨rfl,h⟩]
theorem passS_bad {n a:Nat} {fl:Int} (h:fl≠0):passS n a fl=a:=by unfold passS;rw[if_neg (fun k=>h k.1)]
theorem failS_ok (n:Int):failS 0 n=n:=rfl
theorem failS_bad {fl:Int} (h:fl≠0) (n:Int):failS fl n=fl:=by unfold failS;rw[if_neg h]
theorem isNum_nil:isNum []=false:=by rfl
theorem numS_bad {L:List Bt} {a:Nat} {fl lo hi:Int} (h:fl≠0):(numS L a fl lo hi).a=a∧(numS L a fl lo hi).f=fl:=by
 unfold numS
 split
 ·split
  ·split
   ·exact⟨rfl,failS_bad h _⟩
   ·exact⟨passS_bad h,rfl⟩
  ·exact⟨rfl,failS_bad h _⟩
 ·exact⟨rfl,failS_bad h _⟩
theorem numS_ok {L:List Bt} {a:Nat} {lo hi:Int} {r:Rn} (hE:SgEnd L) (ha:a < L.length) (h:numF lo hi (L.drop a)=some r):numS L a 0 lo hi=⟨r.v,a+1,0⟩∧L.drop (a+1)=r.s∧a+1 < L.length∧lo≤r.v∧r.v≤hi:=by
 rw[drop_get ha] at h;unfold numS;simp only[numF] at h;cases hn:isNum (L.getD a []) with
 | false=>rw[hn] at h;simp at h
 | true=>
  have hne:L.getD a []≠ []:=fun e=>by rw[e,isNum_nil] at hn;cases hn
  have hp:=hE.pass ha hne;rw[hn,if_pos rfl] at h;rw[if_pos rfl];cases hat:Lib.atoiAll (L.getD a []) with
  | ok n=>
   rw[hat] at h;simp only at h ⊢
   split at h
   ·cases h
   ·rename_i hb
    cases h;rw[if_neg hb,passS_ok hp];exact⟨rfl,rfl,hp,by show lo≤n;omega,by show n≤hi;omega⟩
  | «syntax» =>rw[hat] at h;cases h
  | range=>rw[hat] at h;cases h
theorem numS_none {L:List Bt} {a:Nat} {lo hi:Int} (ha:a < L.length) (h:numF lo hi (L.drop a)=none):(numS L a 0 lo hi).a=a∧(numS L a 0 lo hi).f≠0:=by
 rw[drop_get ha] at h;unfold numS;simp only[numF] at h
 split
 ·rename_i hn
  rw[if_pos hn] at h
  split
  ·rename_i n hat
   rw[hat] at h;simp only at h
   split
   ·exact⟨rfl,(by decide:(2:Int)≠0)⟩
   ·rename_i hb
    rw[if_neg hb] at h;cases h
  ·exact⟨rfl,(by decide:(2:Int)≠0)⟩
 ·exact⟨rfl,(by decide:(3:Int)≠0)⟩
theorem expS_ok {L:List Bt} {x:Bt} {a:Nat} {s:List Bt} (hE:SgEnd L) (hx:x≠ []) (ha:a < L.length) (h:expF x (L.drop a)=some s):expS L x a 0=(a+1,0)∧L.drop (a+1)=s∧a+1 < L.length:=by
 rw[drop_get ha] at h;simp only[expF] at h
 split at h
 ·rename_i e
  cases h;have hp:=hE.pass ha (by rw[e];exact hx);unfold expS;rw[if_pos e,passS_ok hp];exact⟨rfl,rfl,hp⟩
 ·cases h
theorem expS_none {L:List Bt} {x:Bt} {a:Nat} (ha:a < L.length) (h:expF x (L.drop a)=none):expS L x a 0=(a,3):=by
 rw[drop_get ha] at h;simp only[expF] at h
 split at h
 ·cases h
 ·rename_i e
  unfold expS;rw[if_neg e,failS_ok,passS_bad (by decide)]
theorem expS_bad {L:List Bt} {x:Bt} {a:Nat} {fl:Int} (h:fl≠0):expS L x a fl=(a,fl):=by
 unfold expS
 split
 ·rw[passS_bad h]
 ·rw[failS_bad h,passS_bad h]
set_option maxHeartbeats 2000000 in
theorem key_any (w:World) (R S:Nat) (L:List Bt) (a:Nat) (fl:Int) (h:RdAt w R S L a fl) (he:RdEnv w R L):
  Calls Tryz.prog 97 #[.pointer (some ⟨R,0,none⟩)] w fun e w'=>e=.returned (.int .i64 (numS L a fl 0 7).v)∧RdAt w' R S L (numS L a fl 0 7).a (numS L a fl 0 7).f∧Fr [R] w w':=by
 have HN:=hideIt (number_any w R S L a fl 0 7 h he);clear h he;generalize numS L a fl 0 7=q at*
 go_enter Tryz.func97,Tryz.ntmps97
 go_wp2_with fail
 refine HN.out.mono ?_;rintro y w1 ⟨rfl,h1,hf1⟩;have H1:=hideIt h1;have HF1:=hideIt hf1;clear h1 hf1;go_wp2;go_ret;exact⟨rfl,H1.out,HF1.out⟩
structure Ws where
 k:Ns
 l:Ns
 t:Ns
def wrS (L:List Bt) (a:Nat) (fl:Int):Ws:=
 let k:=numS L a fl 0 7
 let l:=numS L k.a k.f (-1000000) 1000000
 ⟨k,l,numS L l.a l.f l.v 1000000⟩
set_option maxHeartbeats 4000000 in
theorem write_any (w:World) (R S:Nat) (L:List Bt) (a:Nat) (fl:Int) (h:RdAt w R S L a fl) (he:RdEnv w R L):
  Calls Tryz.prog 98 #[.pointer (some ⟨R,0,none⟩)] w fun e w'=>e=.returned (.iface 248 (.agg #[.int .i64 (wrS L a fl).k.v,.int .i64 (wrS L a fl).l.v,.int .i64 (wrS L a fl).t.v]))∧RdAt w' R S L (wrS L a fl).t.a (wrS L a fl).t.f∧Fr [R] w w':=by
 have HE:=hideIt he;have HN:=hideIt (key_any w R S L a fl h he);have hX:∀x∈ [R],R≤x:=by simp
 obtain⟨q,hq⟩:∃q,wrS L a fl=q:=⟨_,rfl⟩;rw[hq];unfold wrS at hq;simp only at hq;generalize hk:numS L a fl 0 7=k at*
 have HL:=hideIt (fun W (h:RdAt W R S L k.a k.f) (he:RdEnv W R L)=>number_any W R S L k.a k.f (-1000000) 1000000 h he);generalize hl:numS L k.a k.f (-1000000) 1000000=l at*
 have HT:=hideIt (fun W (h:RdAt W R S L l.a l.f) (he:RdEnv W R L)=>number_any W R S L l.a l.f l.v 1000000 h he);generalize ht:numS L l.a l.f l.v 1000000=t at*
 subst hq;clear h he hk hl ht;go_enter Tryz.func98,Tryz.ntmps98
 go_wp2_with fail
 refine HN.out.mono ?_;rintro y w1 ⟨rfl,h1,hf1⟩;have H1:=hideIt h1;have HF1:=hideIt hf1;have HE1:=hideIt (HE.out.fr hf1 hX);clear h1 hf1;go_wp2_with fail
 refine(HL.out _ H1.out HE1.out).mono ?_;rintro y w2 ⟨rfl,h2,hf2⟩;have H2:=hideIt h2;have HF2:=hideIt (HF1.out.trans hf2);have HE2:=hideIt (HE1.out.fr hf2 hX);clear h2 hf2;go_wp2_with fail
 refine(HT.out _ H2.out HE2.out).mono ?_;rintro y w3 ⟨rfl,h3,hf3⟩;have H3:=hideIt h3;have HF3:=hideIt (HF2.out.trans hf3);clear h3 hf3;go_wp2;go_ret;exact⟨rfl,H3.out,HF3.out⟩
end Go.Proofs.YtjpklmighoondaaGreatDoor.Gn
