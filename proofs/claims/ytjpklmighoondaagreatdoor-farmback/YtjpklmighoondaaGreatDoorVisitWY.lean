/-
  Package linear's visit: walked.
  What a search tells as a whole.
-/
import Derived.Test.YtjpklmighoondaaGreatDoorStepLY
import Derived.Deep.RegionHeld3
import Derived.Deep.DeepCutAuto
namespace Go.Proofs.YtjpklmighoondaaGreatDoor
open Go.RowKit
theorem over_call {p:Par} (hp:ParOK p) {ord:List Nat} (ho:∀m∈ord,m < 60) (W:World):Calls Tryz.prog 84 #[.int .u64 (maskN ord),.int .u64 (maskN (endL p.ops))] W fun e w'=>e=.returned (.bool (overB p.ops ord))∧w'=W:=by
 have h1:∀m∈ord,m < 64:=fun m hm=>by have:=ho m hm;omega
 have h2:∀m∈endL p.ops,m < 64:=fun m hm=>by have:=endL_lt m hm;have:=hp.len;omega
 rw[←over_all,←coversN_mask h1 h2];exact covers_any _ _ W (maskN_lt h1) (maskN_lt h2)
theorem range_drop {n k:Nat} (h:k < n):(List.range n).drop k=k::(List.range n).drop (k+1):=by
 rw[List.drop_eq_getElem_cons (by simpa using h)];simp
theorem loop_none {p:Par} {f:Nat} {S:Int→List Int} {ord:List Nat} {k:Nat} {ent:List (List UInt8)} (hk:k < p.ops.length) (h:stepN p.sr S ord k=none):
  loopM p.sr (visitM p.sr f) S ord ((List.range p.ops.length).drop k) ent=loopM p.sr (visitM p.sr f) S ord ((List.range p.ops.length).drop (k+1)) ent:=by
 rw[range_drop hk,loopM,h]
theorem loop_on {p:Par} {f:Nat} {S:Int→List Int} {ord:List Nat} {k:Nat} {ent:List (List UInt8)} {st:List Int} (hk:k < p.ops.length) (h:stepN p.sr S ord k=some st) (hc:(visitM p.sr f (setK S (opN p.ops k).k st) (ord++ [k]) ent).code=2):
  loopM p.sr (visitM p.sr f) S ord ((List.range p.ops.length).drop k) ent=loopM p.sr (visitM p.sr f) S ord ((List.range p.ops.length).drop (k+1)) (visitM p.sr f (setK S (opN p.ops k).k st) (ord++ [k]) ent).ent:=by
 rw[range_drop hk,loopM,h];exact if_pos hc
theorem loop_out {p:Par} {f:Nat} {S:Int→List Int} {ord:List Nat} {k:Nat} {ent:List (List UInt8)} {st:List Int} (hk:k < p.ops.length) (h:stepN p.sr S ord k=some st) (hc:(visitM p.sr f (setK S (opN p.ops k).k st) (ord++ [k]) ent).code≠2):
  loopM p.sr (visitM p.sr f) S ord ((List.range p.ops.length).drop k) ent=visitM p.sr f (setK S (opN p.ops k).k st) (ord++ [k]) ent:=by
 rw[range_drop hk,loopM,h];exact if_neg hc
theorem loop_end {p:Par} {f:Nat} {S:Int→List Int} {ord:List Nat} {k:Nat} {ent:List (List UInt8)} (hk:¬k < p.ops.length):
  loopM p.sr (visitM p.sr f) S ord ((List.range p.ops.length).drop k) ent=⟨2,ord,ent⟩:=by
 rw[List.drop_eq_nil_of_le (by simp;omega),loopM]
def RoundAt (p:Par) (w:World) (f:Nat) (ord:List Nat) (S:Int→List Int) (vs:Nat→Value) (ov:Value) (R:Res) (k:Nat) (wr:World):Prop:=
 ∃ov' nv' ent',SearchAt p wr ord S vs ov' nv' ent'∧VFr p ov w ov' wr∧ent'.length≤p.bud∧R=loopM p.sr (visitM p.sr f) S ord ((List.range p.ops.length).drop k) ent'
theorem name_pos (ord:List Nat) (S:Int→List Int):0 < (nameB ord S).length:=by
 have:=d36_pos (maskN ord);unfold nameB;rw[List.length_append];omega
theorem name_len {p:Par} (hp:ParOK p) {ord:List Nat} {S:Int→List Int} (hR:Reach p.sr ord S):(nameB ord S).length≤100000:=by
 have hro:=reach_ord hp hR;have h1:=d36_length64 (maskN_lt (ord:=ord) (fun m hm=>by have:=hro.1 m hm;omega));have h2:=keysB_len (S:=S) (ks:=List.range 8) (fun k _=>⟨reach_i64 hp hR k,by have:=reach_len hR (k:Int);omega⟩);unfold nameB;rw[List.length_append];simp at h2;omega
theorem name_conv {W3:World} {base g c:Nat} {nm:List UInt8} (h:W3.ownsRow base 5 1 (.slice (some ⟨g,0,none⟩) nm.length c) (0+nm.length) ([]++byteV nm)) (W:World) (e:W.heap[g]?=W3.heap[g]?):
  (convert 134 9 (.slice (some ⟨g,0,none⟩) nm.length c)).run Tryz.prog W=.ok (.string ⟨nm.toArray⟩) W:=by
 refine run_convert_bytes_back W 134 9 5 ⟨g,0,none⟩ c nm Tryz.underlying134 Tryz.underlying5 Tryz.underlying9 (fun j hj=>?_);have:=h.cells (g:=g) rfl j (.int .u8 (nm[j].toNat:Int)) (by simp[byteV,hj]);rw[Addr.add_lit] at this ⊢;exact(World.cell?_of_block (a:=⟨g,0+j,none⟩) e).trans this
set_option maxRecDepth 100000 in
set_option maxHeartbeats 8000000 in
theorem visit_any (p:Par) (hp:ParOK p):∀(f:Nat) (ord:List Nat) (S:Int→List Int) (vs:Nat→Value) (ov nv:Value) (ent:List (List UInt8)) (w:World),SearchAt p w ord S vs ov nv ent→Reach p.sr ord S→f+ord.length=p.ops.length+1→ent.length≤p.bud→
  Calls Tryz.prog 228 #[.pointer (some ⟨p.B,0,none⟩)] w fun e w'=>VTold p w ord S vs ov (visitM p.sr f S ord ent) e w':=by
 intro f
 induction f with
 | zero=>intro ord S vs ov nv ent w _ hR hf;have:=reach_length hR;have:ord.length≤p.ops.length:=this;omega
 | succ f ih=>
  intro ord S vs ov nv ent w h hR hf hbud;have hro:=reach_ord hp hR;have HCOV:=hideIt (over_call hp hro.1);have b7:w.cell? ⟨p.B,7,none⟩=some (.int .u64 (maskN ord)):=blk_cells h.blk 7;have b5:w.cell? ⟨p.B,5,none⟩=some (.int .u64 (maskN (endL p.ops))):=blk_cells h.blk 5;cases hov:overB p.ops ord
  ·rw[hov] at HCOV;obtain⟨na,nl,nc,rfl,hnl,hnc,hnown⟩:=name_cut h.name;have b17:w.cell? ⟨p.B,17,none⟩=some (.slice na nl nc):=blk_cells h.blk 17;unfold maxLen at hnc;have hs:p.b0≤w.heap.size:=by have:=lt_of_heap h.blk;have:=h.b0B;omega
   have HNM:Hid (∀W,w.grownBy W none→Calls Tryz.prog 266 #[.pointer (some ⟨p.B,7,none⟩),.slice na 0 nc] W fun e w'=>NmTold p W ord S e w'):=hideIt (fun W hg=>by
    have h2:=h.grown hg;exact appendName_any p ord S vs ov (.slice na nl nc) (.slice na 0 nc) W h2.blk h2.rows (hnown.kept hg (Classical.em _)) (Nat.le_trans hs hg.size) hro.1 (fun k _=>⟨reach_i64 hp hR k,by have:=reach_len hR (k:Int);have:=hro.2;omega⟩))
   have HH:=hideIt h;clear h hnown;go_enter Tryz.func228,Tryz.ntmps228
   go_wp2_with fail
   go_quiet ((go_at_call 84;exact Calls.quiet_of_same (HCOV.out _)))
   generalize hW0:w.drewN nq=W0;have hg0:w.grownBy W0 none:=by rw[←hW0];exact grown_drewN _ _ _
   have h0:=HH.out.grown hg0;have b17':W0.cell? ⟨p.B,17,none⟩=some (.slice na nl nc):=blk_cells h0.blk 17;have f17:=blk_fz h0.blk 17;have HC:=hideIt (HNM.out W0.drew (hg0.trans (grown_drew _ _)));have HS1:Hid (∀v1 w1,Wrote p.b0 W0.drew 0 [] (nameB ord S) v1 w1→w1.cell? ⟨p.B,17,none⟩=some (.slice na nl nc)∧w1.frozen? ⟨p.B,17,none⟩=false∧∃g c,v1=.slice (some ⟨g,0,none⟩) (nameB ord S).length c):=hideIt (fun v1 w1 hw=>by
    have e:w1.heap[p.B]?=W0.heap[p.B]?:=hw.fr.block p.B (lt_of_heap h0.blk) (fun⟨_,c,fz,e⟩=>by
     have e':=h0.blk;rw[show W0.heap[p.B]?=_ from e] at e';simp at e')
    have e:=e.trans h0.blk;refine⟨blk_cells e 17,blk_fz e 17,?_⟩;obtain⟨_,⟨_,hz⟩ | ⟨g,cap,cur,hv,_⟩⟩:=hw.row
    ·exact absurd hz (by have:=name_pos ord S;omega)
    ·exact⟨g,cap,by rw[hv];simp⟩)
   have H0:=hideIt h0;have HG0:=hideIt hg0;clear hW0 b7 b5 b17 h0 hg0;go_wp2_with fail
   go_region_with (go_at_call 266;refine HC.out.mono ?_;rintro e w1 ⟨v1,rfl,hw1⟩;obtain⟨d1,d2,g,c,hv1⟩:=HS1.out v1 w1 hw1;subst hv1;have HW1:=hideIt hw1;clear hw1)
   obtain⟨h3,hrow3,hv3⟩:=(H0.out.grown (grown_drew _ _)).named HW1.out;have hv3:VFr p ov w ov (w1.setCell ⟨p.B,17,none⟩ (.slice (some ⟨g,0,none⟩) (nameB ord S).length c)):=(vfr_grown HG0.out).trans ((vfr_grown (grown_drew _ _)).trans hv3);generalize w1.setCell ⟨p.B,17,none⟩ (.slice (some ⟨g,0,none⟩) (nameB ord S).length c)=W3 at h3 hrow3 hv3 ⊢;have hnl2:=name_len hp hR;obtain⟨nm,hnm⟩:∃nm,nameB ord S=nm:=⟨_,rfl⟩;have HNN:=hideIt hnm;rw[hnm] at h3 hrow3 hnl2 ⊢;clear hnm HW1 d1 d2 HS1 HC b17' f17 H0 HG0 HH HNM HCOV;have m6:W3.cell? ⟨p.B,6,none⟩=some (.map (some p.M)):=blk_cells h3.blk 6;have m17:W3.cell? ⟨p.B,17,none⟩=some (.slice (some ⟨g,0,none⟩) nm.length c):=blk_cells h3.blk 17;have hconv:=name_conv hrow3 W3.drew rfl;have hlook:(Instr.lookup 92 (.map (some p.M)) (.string ⟨nm.toArray⟩) true).run Tryz.prog W3.drew=.ok (.tuple #[.agg #[],.bool (ent.contains nm)]) W3.drew:=(h3.set.same (w':=W3.drew) rfl).look nm hnl2;have hBl:p.B < W3.heap.size:=lt_of_heap h3.blk;have hgl:g < W3.heap.size:=(hrow3.lt g rfl).2;have hMl:p.M < W3.heap.size:=by obtain⟨es,clock,hm⟩:=h3.set.isMap;exact lt_of_heap hm
   have hconv2:=name_conv hrow3 (W3.alloc (.cells #[] 99)).drew (Below.heap_alloc W3 _ g hgl);have hlook2:(Instr.lookup 92 (.map (some p.M)) (.string ⟨nm.toArray⟩) true).run Tryz.prog (W3.alloc (.cells #[] 99)).drew=.ok (.tuple #[.agg #[],.bool (ent.contains nm)]) (W3.alloc (.cells #[] 99)).drew:=(h3.set.same (w':=(W3.alloc (.cells #[] 99)).drew) (Below.heap_alloc W3 _ p.M hMl)).look nm hnl2;have H3:=hideIt h3;have HV3:=hideIt hv3;have HR3:=hideIt hrow3;clear h3 hv3 hrow3;obtain⟨cb,hcon⟩:∃cb,ent.contains nm=cb:=⟨_,rfl⟩;rw[hcon] at hlook hlook2;have HCON:=hideIt hcon;clear hcon;go_upto_region 4 with fail
   go_cut [4] (fun x wx=>x=.bool cb∧W3.grownBy wx none)
   case first=>
    go_region
    all_goals
     go_wp2_with fail
     go_meet
     exact⟨rfl,(World.grownBy_alloc _ _ _).trans (grown_drew _ _)⟩
   case rest=>
    obtain⟨rfl,hg4⟩:=hcut;have h4:=H3.out.grown hg4;have HR4:=hideIt (HR3.out.kept hg4 (Classical.em _));have HV4:=hideIt (HV3.out.trans (vfr_grown hg4));clear m6 m17 hconv hconv2 hlook hlook2 hBl hgl hMl H3 HR3 HV3 hg4;have e6:wc.cell? ⟨p.B,6,none⟩=some (.map (some p.M)):=blk_cells h4.blk 6;have e2:wc.cell? ⟨p.B,2,none⟩=some (.int .i64 p.bud):=blk_cells h4.blk 2;have hlen4:∀ty,(Builtin.len_ #[92] ty #[.map (some p.M)]).run Tryz.prog wc.drew=.ok (.int .i64 (ent.length:Int)) wc.drew:=fun ty=>(h4.set.same (w':=wc.drew) rfl).len ty
    have H4:=hideIt h4;clear h4;cases cb
    ·go_wp2_with fail
     obtain⟨eb,heb⟩:∃eb,((ent.length:Int)==(p.bud:Int))=eb:=⟨_,rfl⟩;have HEB:=hideIt heb;go_upto_region 7 with fail
     go_cut [56] (fun x wx=>x=.bool eb∧wc.grownBy wx none)
     case first=>
      go_region
      all_goals
       go_wp2_with fail
       go_meet
       exact⟨by first | rfl | rw[HEB.out],grown_drew _ _⟩
     case rest=>
      obtain⟨rfl,hg5⟩:=hcut;have h5:=H4.out.grown hg5;have HR5:=hideIt (HR4.out.kept hg5 (Classical.em _));have HV5:=hideIt (HV4.out.trans (vfr_grown hg5));clear e6 e2 hlen4 heb H4 HR4 HV4 hg5;cases eb
      ·have hne:ent.length≠p.bud:=fun e=>by have:=HEB.out;rw[e] at this;simp at this
       have HV0:Hid (visitM p.sr (f+1) S ord ent=loopM p.sr (visitM p.sr f) S ord (List.range p.ops.length) (nm::ent)):=hideIt (by
        conv=>lhs;unfold visitM
        rw[if_neg (show ¬overB p.sr.ops ord=true by show ¬overB p.ops ord=true;rw[hov];decide),if_neg (show ¬ent.contains (p.sr.nm ord S)=true by show ¬ent.contains (nameB ord S)=true;rw[HNN.out,HCON.out];decide),
         if_neg (show ¬ent.length=p.sr.bud from hne)]
        show loopM p.sr (visitM p.sr f) S ord (List.range p.ops.length) (nameB ord S::ent)=_;rw[HNN.out])
       obtain⟨W6,hrun6,hset6,hg6⟩:=(h5.set.same (w':=wc.drew) rfl).store (by have:=hp.bud;omega) nm hnl2 HCON.out;have hconv5:=name_conv HR5.out wc.drew rfl;have e6:wc.cell? ⟨p.B,6,none⟩=some (.map (some p.M)):=blk_cells h5.blk 6;have e17:wc.cell? ⟨p.B,17,none⟩=some (.slice (some ⟨g,0,none⟩) nm.length c):=blk_cells h5.blk 17;have H6:=hideIt ((h5.grown (grown_drew _ _)).entered hg6 hset6);have HV6:=hideIt ((HV5.out.trans (vfr_grown (grown_drew _ _))).trans H6.out.2);unfold strV at hrun6;clear h5 HR5 HV5 hset6 hg6;go_upto_region 9 with fail
       go_cut [2] (fun x wx=>x=.int .i64 0∧wx=W6)
       case first=>
        go_region
        all_goals
         go_wp2_with fail
         go_meet
         exact⟨rfl,rfl⟩
       case rest=>
        obtain⟨rfl,hwc⟩:=hcut;rw[hwc];clear hrun6 hconv5 e6 e17 hwc;have h6:=H6.out.1;obtain⟨ua,ucap,hu,_,hum,_⟩:=h6.ops;unfold maxLen at hum;have c1:W6.cell? ⟨p.B,1,none⟩=some (.slice ua p.ops.length ucap):=by rw[←hu];exact blk_cells h6.blk 1
        have HU:=hideIt hu;have H6':=hideIt h6;clear hu h6 H6;go_wp2
        go_loopw [72] (fun i wr=>∃k:Nat,k≤p.ops.length∧i=.int .i64 k∧RoundAt p w f ord S vs ov (visitM p.sr (f+1) S ord ent) k wr) (fun i _=>p.ops.length - (intOf i).toNat)
        case atStart=>exact⟨0,by omega,rfl,ov,_,nm::ent,H6'.out,HV6.out,by simp only[List.length_cons];omega,by rw[HV0.out];rfl⟩
        case round=>
         obtain⟨k,hk,rfl,hrnd⟩:=hrel;obtain⟨ov',nv',ent',h7,hv7,hb7,hR7⟩:=hrnd;have HR7:=hideIt hR7;have HV7:=hideIt hv7;clear hR7 hv7 c1;by_cases hkl:k < p.ops.length
         ·obtain⟨q,hkq⟩:∃q:Nat,(opN p.ops k).k=q:=⟨(opN p.ops k).k.toNat,by have:=(hp.keys k hkl).1;omega⟩;have hq:q < 8:=by have:=(hp.keys k hkl).2;omega
          obtain⟨bo,offo,cap,hu,hbo,hop⟩:=ops_cell h7.ops h7.opsb hkl;have hua:ua=some ⟨bo,offo,none⟩:=by have:=HU.out.symm.trans hu;simp at this;exact this.1
          subst hua;obtain⟨c0,c1,c2,c3,c4,c5,c6,c7⟩:=hop wr (Below.refl _ _);have hkq':=hkq;rw[opN_at hkl] at hkq';rw[hkq'] at c1;have k1:(0:Int)≤(k:Int):=by omega
          have k2:(k:Int) < (p.ops.length:Int):=by omega
          have HSC:Hid (Calls Tryz.prog 267 #[.pointer (some ⟨p.B,0,none⟩),.int .i64 k] (wr.alloc (.cells #[.int .i64 p.ops[k].p,.int .i64 q,.int .i64 p.ops[k].d,.int .i64 p.ops[k].a,.int .i64 p.ops[k].b,.int .i64 p.ops[k].r,.int .i64 p.ops[k].c,.int .i64 p.ops[k].e] 157)) fun e w'=>StTold p (wr.alloc (.cells #[.int .i64 p.ops[k].p,.int .i64 q,.int .i64 p.ops[k].d,.int .i64 p.ops[k].a,.int .i64 p.ops[k].b,.int .i64 p.ops[k].r,.int .i64 p.ops[k].c,.int .i64 p.ops[k].e] 157)) ord S k e w'):=hideIt
           (step_lin p k q ord S vs ov' nv' ent' _ (h7.grown (World.grownBy_alloc _ _ _)) hkl hp.len hkq hq hro.1 (reach_rise hR (q:Int)) (by have:=reach_len hR (q:Int);omega))
          have H7:=hideIt h7;clear h7 hop hu hkq';go_wp2_with fail
          refine HSC.out.mono ?_;intro e w2 hst;obtain⟨hb2,hm⟩:=hst;have hbw:Below wr.heap.size wr w2:=((Below.refl _ _).alloc (Nat.le_refl _) _).trans (hb2.mono (by simp));have h8:=H7.out.grown (grown_of_below hbw);have hv8:=HV7.out.trans (vfr_grown (grown_of_below hbw));cases hsn:stepN p.sr S ord k with
          | none=>
           rw[hsn] at hm;obtain⟨v,rfl⟩:=hm;have HX:Hid (RoundAt p w f ord S vs ov (visitM p.sr (f+1) S ord ent) (k+1) w2):=hideIt ⟨ov',nv',ent',h8,hv8,hb7,by rw[HR7.out,loop_none hkl hsn]⟩;clear h8 hv8 hbw hb2 hsn c0 c1 c2 c3 c4 c5 c6 c7;go_wp2
           go_roundw
           case rel=>exact⟨k+1,by omega,by go_num,HX.out⟩
           case measure=>simp[intOf];omega
          | some st=>
           rw[hsn] at hm;obtain⟨v,rfl,hrv⟩:=hm;obtain⟨va,vl,vc,rfl⟩:=hrv.slice;have hbox:w2.cell? ⟨wr.heap.size,1,none⟩=some (.int .i64 q):=by
            rw[hb2.cell (p:=⟨wr.heap.size,1,none⟩) (by simp)];simp
           have hbq:w2.cell? ⟨p.B,8+q,none⟩=some (vs q):=(blk_cells h8.blk (8+q)).trans (blkA_vs _ _ _ _ _ _ hq);have q1:(0:Int)≤(q:Int):=by omega
           have q2:(q:Int) < 8:=by omega
           have hsz:wr.heap.size≤(wr.alloc (.cells #[.int .i64 p.ops[k].p,.int .i64 q,.int .i64 p.ops[k].d,.int .i64 p.ops[k].a,.int .i64 p.ops[k].b,.int .i64 p.ops[k].r,.int .i64 p.ops[k].c,.int .i64 p.ops[k].e] 157)).heap.size:=by simp
           have hR2:Reach p.sr (ord++ [k]) (setK S (q:Int) st):=by rw[←hkq];exact hR.step hkl hsn
           have HDO:Hid (∀W3,w2.grownBy W3 none→Calls Tryz.prog 268 #[.pointer (some ⟨p.B,0,none⟩),.int .i64 k,.slice va vl vc] W3 fun e w'=>DoTold p W3 (ord++ [k]) (setK S (q:Int) st) (setV vs q (.slice va vl vc)) ov' nv' ent' e w'):=hideIt (fun W3 hg=>
            do_any p k q ord S vs ov' nv' (.slice va vl vc) ent' st W3 (h8.grown hg) hkl hp.len hkq hq hro.1 hro.2 ((hrv.new hg).base (by
             have:=lt_of_heap H7.out.blk;have:=H7.out.b0B;omega)) (fun b hb e=>by
              have h1:=(hrv.lt b hb).1;have h2:=(H7.out.ordr.lt b e).2;omega))
           have HSN:=hideIt hsn;have H8:=hideIt h8;have HV8:=hideIt hv8;clear h8 hv8 hbw hb2 hsn c0 c1 c2 c3 c4 c5 c6 c7 hrv hsz;go_wp2_with fail
           go_quiet (fail)
           generalize hW4:w2.drewN nq=W4;have hg4:w2.grownBy W4 none:=by rw[←hW4];exact grown_drewN _ _ _
           have h9:=H8.out.grown hg4;have HC4:=hideIt (HDO.out W4 hg4);have HV9:=hideIt (HV8.out.trans (vfr_grown hg4));have H9:=hideIt h9;clear hW4 hg4 h9 hbox hbq;go_wp2_with fail
           refine HC4.out.mono ?_;rintro e w4 ⟨ov1,rfl,h10,hv10⟩;have HI:=hideIt (ih (ord++ [k]) (setK S (q:Int) st) (setV vs q (.slice va vl vc)) ov1 nv' ent' w4 h10 hR2 (by simp;omega) hb7);have HV10:=hideIt hv10;clear h10 hv10;go_wp2_with fail
           refine HI.out.mono ?_;rintro e w5 ⟨rfl,S5,vs5,ov5,nv5,h11,hv11,h2⟩;have hvall:=HV10.out.trans hv11;have hcd:=visit_code (c:=p.sr) f (setK S (q:Int) st) (ord++ [k]) ent';have hbu:=visit_bud (c:=p.sr) f (setK S (q:Int) st) (ord++ [k]) ent' hb7;have HOUT:=hideIt (fun hc=>loop_out (p:=p) (f:=f) (S:=S) (ord:=ord) (ent:=ent') hkl HSN.out hc);have HON:=hideIt (fun hc=>loop_on (p:=p) (f:=f) (S:=S) (ord:=ord) (ent:=ent') hkl HSN.out hc);rw[hkq] at HOUT HON;generalize visitM p.sr f (setK S (q:Int) st) (ord++ [k]) ent'=r at h11 h2 hcd hbu HOUT HON ⊢;by_cases hc2:r.code=2
           ·obtain⟨e1,rfl,rfl⟩:=h2 hc2;rw[e1] at h11;have hc2':((r.code:Int) != 2)=false:=by rw[hc2];rfl
            have hrowq:=hvall.row (H9.out.rows q hq) H9.out.blkd H9.out.set.isMap (fun b hb=>H9.out.sep q hq b hb);have HUN:=hideIt (undo_any p k q ord (setK S (q:Int) st) (setV vs q (.slice va vl vc)) ov5 nv5 (vs q) r.ent (S (q:Int)) w5 h11 hkl hp.len hkq hq hro.1 hro.2 (free_not (stepN_free HSN.out).1) hrowq (fun b hb e=>by
             rcases hvall.ovn b e with e | e
             ·exact H9.out.sep q hq b hb e
             ·have:=((H9.out.rows q hq).lt b hb).2;omega))
            rw[setK_back,setV_back] at HUN;have HVA:=hideIt (HV9.out.trans hvall);have HRR:=hideIt (HR7.out.trans (HON.out hc2));clear h11 hv11 h2 hvall hrowq e1 hcd hc2;go_wp2_with fail
            refine HUN.out.mono ?_;rintro e w6 ⟨ov6,rfl,h12,hv12⟩;have HX:Hid (RoundAt p w f ord S vs ov (visitM p.sr (f+1) S ord ent) (k+1) w6):=hideIt ⟨ov6,nv5,r.ent,h12,HVA.out.trans hv12,hbu,HRR.out⟩;clear h12 hv12;go_wp2
            go_roundw
            case rel=>exact⟨k+1,by omega,by go_num,HX.out⟩
            case measure=>simp[intOf];omega
           ·have hc2':((r.code:Int) != 2)=true:=by
             rw[bne_iff_ne];omega
            have HX:Hid (VTold p w ord S vs ov (visitM p.sr (f+1) S ord ent) (.returned (.int .i64 (r.code:Int))) w5):=hideIt (by
             rw[HR7.out,HOUT.out hc2];exact⟨rfl,S5,vs5,ov5,nv5,h11,HV9.out.trans hvall,fun e=>absurd e hc2⟩)
            clear h11 hv11 h2 hvall hcd hc2;go_wp2;go_ret;exact HX.out
         ·have HE:=hideIt (loop_end (p:=p) (f:=f) (S:=S) (ord:=ord) (ent:=ent') hkl);have HX:Hid (VTold p w ord S vs ov (visitM p.sr (f+1) S ord ent) (.returned (.int .i64 2)) wr):=hideIt (by
           rw[HR7.out,HE.out];exact⟨rfl,S,vs,ov',nv',h7,HV7.out,fun _=>⟨rfl,rfl,rfl⟩⟩)
          go_wp2;go_ret;exact HX.out
      ·have HX:Hid (∀w',wc.grownBy w' none→VTold p w ord S vs ov (visitM p.sr (f+1) S ord ent) (.returned (.int .i64 3)) w'):=hideIt (fun w' hg=>by
        have e:visitM p.sr (f+1) S ord ent=⟨3,ord,ent⟩:=by
         unfold visitM;rw[if_neg (show ¬overB p.sr.ops ord=true by show ¬overB p.ops ord=true;rw[hov];decide),if_neg (show ¬ent.contains (p.sr.nm ord S)=true by show ¬ent.contains (nameB ord S)=true;rw[HNN.out,HCON.out];decide),
          if_pos (show ent.length=p.sr.bud by have:=HEB.out;simp at this;exact Int.ofNat.inj this)]
        rw[e];exact⟨rfl,S,vs,ov,_,h5.grown hg,HV5.out.trans (vfr_grown hg),fun e=>by cases e⟩)
       go_wp2;go_ret;exact HX.out _ (grown_refl _ _)
    ·have HX:Hid (∀w',wc.grownBy w' none→VTold p w ord S vs ov (visitM p.sr (f+1) S ord ent) (.returned (.int .i64 2)) w'):=hideIt (fun w' hg=>by
      have e:visitM p.sr (f+1) S ord ent=⟨2,ord,ent⟩:=by
       unfold visitM;rw[if_neg (show ¬overB p.sr.ops ord=true by show ¬overB p.ops ord=true;rw[hov];decide),if_pos (show ent.contains (p.sr.nm ord S)=true by show ent.contains (nameB ord S)=true;rw[HNN.out];exact HCON.out)]
      rw[e];exact⟨rfl,S,vs,ov,_,H4.out.grown hg,HV4.out.trans (vfr_grown hg),fun _=>⟨rfl,rfl,rfl⟩⟩)
     go_wp2;go_ret;exact HX.out _ (grown_refl _ _)
  ·rw[hov] at HCOV;have HV:Hid (∀w',w.grownBy w' none→VTold p w ord S vs ov (visitM p.sr (f+1) S ord ent) (.returned (.int .i64 1)) w'):=hideIt (fun w' hg=>by
    have e:visitM p.sr (f+1) S ord ent=⟨1,ord,ent⟩:=by
     unfold visitM;rw[if_pos (show overB p.sr.ops ord=true from hov)]
    rw[e];exact⟨rfl,S,vs,ov,nv,h.grown hg,vfr_grown hg,fun e=>by cases e⟩)
   clear hov h;go_enter Tryz.func228,Tryz.ntmps228
   go_wp2_with fail
   go_quiet ((go_at_call 84;exact Calls.quiet_of_same (HCOV.out _)))
   go_wp2;go_ret;exact HV.out _ (grown_drewN _ _ _)
open Go.RowKit
def nilS:Value:=.slice none 0 0
def blkG (o:Int) (u:Value) (bud:Nat) (fn wv:Value) (must:Nat) (M done:Nat) (vs:Nat→Value) (ov nv:Value):Array Value:=
 #[.int .i64 o,u,.int .i64 bud,fn,wv,.int .u64 must,.map (some M),.int .u64 done,vs 0,vs 1,vs 2,vs 3,vs 4,vs 5,vs 6,vs 7,ov,nv]
section
variable {B : Nat} {w : World} {cs : Array Value}
theorem bg_cell (h:w.heap[B]?=some (.cells cs 272 (0,0))) (i:Nat):w.cell? ⟨B,i,none⟩=cs[i]?:=cell_of_row w _ _ _ 272 (0,0) h
theorem bg_fz (h:w.heap[B]?=some (.cells cs 272 (0,0))) (i:Nat):w.frozen? ⟨B,i,none⟩=false:=frozen_of_row w _ _ _ 272 h
theorem bg_set (h:w.heap[B]?=some (.cells cs 272 (0,0))) (i:Nat) (x:Value):(w.setCell ⟨B,i,none⟩ x).heap[B]?=some (.cells (cs.setIfInBounds i x) 272 (0,0)):=by
 simp[World.setCell,Array.getElem?_modify,h]
end
theorem blkG_key (o:Int) (u:Value) (bud:Nat) (fn wv:Value) (must M done:Nat) (vs:Nat→Value) (ov nv:Value) (q:Nat) (hq:q < 8) (x:Value):(blkG o u bud fn wv must M done vs ov nv).setIfInBounds (8+q) x=blkG o u bud fn wv must M done (setV vs q x) ov nv:=by
 match q,hq with
 | 0,_=>rfl
 | 1,_=>rfl
 | 2,_=>rfl
 | 3,_=>rfl
 | 4,_=>rfl
 | 5,_=>rfl
 | 6,_=>rfl
 | 7,_=>rfl
theorem start_call (o:Int) (W:World):∃a l c w2,(Calls Tryz.prog 140 #[.int .i64 o] W fun e w'=>e=.returned (.slice a l c)∧w'=w2)∧RowAt w2 W.heap.size (.slice a l c) (startL o)∧W.grownBy w2 none:=by
 have h:=startAt W o;obtain⟨a,l,c,e⟩:=h.slice;refine⟨a,l,c,startW W o,?_,e▸h,startGrown W o⟩;have:=start_any o W;rw[e] at this;exact this
def VdTold (b0:Nat) (w:World) (r:Res) (e:Ending) (w':World):Prop:=
 ∃ov,e=.returned (.agg #[.int .i64 (r.code:Int),ov,.int .i64 (r.ent.length:Int)])∧Below b0 w w'∧(r.code=1→w'.ownsRow b0 3 1 ov r.ord.length (ordV r.ord))∧(r.code≠1→ov=.slice none 0 0)
end Go.Proofs.YtjpklmighoondaaGreatDoor
