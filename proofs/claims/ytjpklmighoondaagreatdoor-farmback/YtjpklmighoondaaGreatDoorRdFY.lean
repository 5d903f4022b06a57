/-
  The reader's gen.
-/
import Derived.Test.YtjpklmighoondaaGreatDoorRdEY
set_option maxRecDepth 100000
namespace Go.Proofs.YtjpklmighoondaaGreatDoor.Gn
open Go.RowKit
set_option maxHeartbeats 4000000 in
theorem isName_yes (t:Bt) (w:World) (h:t=nmRead∨t=nmWrite∨t=nmLimit∨t=nmMix∨t=nmThen):
  Calls Tryz.prog 95 #[.string (ba t)] w fun e w'=>e=.returned (.bool true)∧w'=w:=by
 have e:=ba_list t;rcases h with rfl | rfl | rfl | rfl | rfl;all_goals (
  simp only[nmRead,nmWrite,nmLimit,nmMix,nmThen] at*
  go_enter Tryz.func95,Tryz.ntmps95
  go_wp2;go_ret;exact⟨rfl,rfl⟩)
set_option maxHeartbeats 4000000 in
theorem isName_no (t:Bt) (w:World) (h1:t≠nmRead) (h2:t≠nmWrite) (h3:t≠nmLimit) (h4:t≠nmMix) (h5:t≠nmThen):
  Calls Tryz.prog 95 #[.string (ba t)] w fun e w'=>e=.returned (.bool false)∧w'=w:=by
 have e:=ba_list t;have b1:(t== [114,101,97,100])=false:=beq_eq_false_iff_ne.2 h1;have b2:(t== [119,114,105,116,101])=false:=beq_eq_false_iff_ne.2 h2;have b3:(t== [108,105,109,105,116])=false:=beq_eq_false_iff_ne.2 h3;have b4:(t== [109,105,120])=false:=beq_eq_false_iff_ne.2 h4;have b5:(t== [116,104,101,110])=false:=beq_eq_false_iff_ne.2 h5;clear h1 h2 h3 h4 h5;go_enter Tryz.func95,Tryz.ntmps95
 go_wp2;go_ret;exact⟨rfl,rfl⟩
set_option maxHeartbeats 4000000 in
theorem gen_bad (f:Nat) (w:World) (R S:Nat) (L:List Bt) (a:Nat) (fl:Int) (hfl:fl≠0) (h:RdAt w R S L a fl) (_hf:f≤20):
  Calls Tryz.prog 44 #[.pointer (some ⟨R,0,none⟩),.int .i64 ((20 - f:Nat):Int)] w fun e w'=>e=.returned .nilIface∧RdAt w' R S L a fl∧Fr [R] w w':=by
 have HH:=hideIt h;have HF:=hideIt (fail_any w R S L a fl 4 h);rw[failS_bad hfl] at HF;have hne:(fl==0)=false:=by simp[hfl]
 have c2:=h.c2;by_cases h19:(19:Int) < ((20 - f:Nat):Int)
 ·generalize ((20 - f:Nat):Int)=ar at*
  clear h c2;go_enter Tryz.func44,Tryz.ntmps44
  go_wp2_with fail
  refine HF.out.mono ?_;rintro y w1 ⟨rfl,h1,hf1⟩;have c2:=h1.c2;have H1:=hideIt h1;have HF1:=hideIt hf1;clear h1 hf1;go_wp2;go_ret;exact⟨rfl,H1.out,HF1.out⟩
 ·generalize ((20 - f:Nat):Int)=ar at*
  clear h;go_enter Tryz.func44,Tryz.ntmps44
  go_wp2;go_ret;exact⟨rfl,HH.out,Fr.refl _ _⟩
set_option maxHeartbeats 4000000 in
theorem gen_zero:GenOk 0 where
 bad:=gen_bad 0
 ok:=fun base w R S L a h he hE hb hf=>by
  have HF:=hideIt (fail_any w R S L a 0 4 h);rw[failS_ok] at HF;clear h he;go_enter Tryz.func44,Tryz.ntmps44
  go_wp2_with fail
  refine HF.out.mono ?_;rintro y w1 ⟨rfl,h1,hf1⟩;have c2:=h1.c2;have H1:=hideIt h1;have HF1:=hideIt hf1;clear h1 hf1;go_wp2;go_ret;exact .inr ⟨_,a,4,rfl,rfl,.inl rfl,by decide,H1.out,HF1.out⟩
set_option maxHeartbeats 8000000 in
theorem gen_read {f:Nat} (_ih:GenOk f) (base:Nat) (w:World) (R S:Nat) (L:List Bt) (a:Nat) (h:RdAt w R S L a 0) (he:RdEnv w R L) (hE:SgEnd L) (_hb:base≤w.heap.size) (hf:f+1≤20) (ht:L.getD a []=nmRead):
  Calls Tryz.prog 44 #[.pointer (some ⟨R,0,none⟩),.int .i64 ((20 - (f+1):Nat):Int)] w (GenTold (f+1) base w R S L a):=by
 have hp:=hE.pass h.lt (by rw[ht];decide);have hG:gF (f+1) (L.drop a)=(match numF 0 7 (L.drop (a+1)) with | none=>none | some k=>some ⟨.rd k.v,k.s⟩):=by rw[drop_get h.lt,ht];rfl
 have HG:=hideIt hG;have HH:=hideIt h;have HEv:=hideIt he;have HN:=hideIt (next_any w R S L a 0 h);rw[ht] at HN;have HIs:=hideIt (fun W=>isName_yes nmRead W (by simp));have HPs:=hideIt (fun W (k:RdAt W R S L a 0)=>pass_any W R S L a 0 k);rw[passS_ok hp] at HPs;have hX:∀x∈ [R],R≤x:=by simp
 have c2:=h.c2;have hRlt:=h.ltR;have e0:=ba_list nmRead;have q19:¬(19:Int) < ((20 - (f+1):Nat):Int):=by omega
 have qw:wrap64 ((20 - f:Nat):Int)=((20 - f:Nat):Int):=by unfold wrap64;omega
 have qx:(((20 - (f+1):Nat):Int)+1)=((20 - f:Nat):Int):=by omega
 generalize ((20 - (f+1):Nat):Int)=ar at*
 generalize ((20 - f:Nat):Int)=ar2 at*
 simp only[nmRead] at HN HIs e0;clear h he ht hG;go_enter Tryz.func44,Tryz.ntmps44
 go_wp2_with fail
 refine HN.out.mono ?_;rintro y w1 ⟨rfl,k1,rfl⟩;have HR1:=hideIt (HH.out.drewN k1);go_wp2_with fail
 refine(HIs.out _).mono ?_;rintro y w2 ⟨rfl,rfl⟩;go_wp2_with fail
 refine(HPs.out _ HR1.out).mono ?_;rintro y w3 ⟨rfl,h3,hf3⟩;have H3:=hideIt h3;have hF3:=(Fr.drewN [R] w k1).trans hf3;have HF3:=hideIt hF3;have HE3:=hideIt (HEv.out.fr hF3 hX);clear h3 hf3 hF3 c2;go_wp2_with fail
 refine(key_any _ R S L (a+1) 0 H3.out HE3.out).mono ?_;rintro y w4 ⟨rfl,h4,hf4⟩;have HF4:=hideIt (HF3.out.trans hf4);have HEnd:Hid (GenTold (f+1) base w R S L a (.returned (.iface 182 (.agg #[.int .i64 (numS L (a+1) 0 0 7).v]))) w4):=by
  cases hn:numF 0 7 (L.drop (a+1)) with
  | none=>
   obtain⟨q1,q2⟩:=numS_none hp hn;exact .inr ⟨_,_,_,by rw[HG.out,hn],rfl,.inr ⟨_,_,rfl⟩,q2,h4,HF4.out⟩
  | some r=>
   obtain⟨q1,q2,q3,q4,q5⟩:=numS_ok hE hp hn;rw[q1] at h4 ⊢;exact .inl ⟨⟨.rd r.v,r.s⟩,_,a+1+1,[],by rw[HG.out,hn],rfl,h4,q2,by omega,⟨rfl,rfl⟩,by simp,HF4.out⟩
 clear h4 hf4 HG;generalize (numS L (a+1) 0 0 7).v=v at*
 go_wp2;go_ret;exact HEnd.out
set_option maxHeartbeats 8000000 in
theorem gen_write {f:Nat} (_ih:GenOk f) (base:Nat) (w:World) (R S:Nat) (L:List Bt) (a:Nat) (h:RdAt w R S L a 0) (he:RdEnv w R L) (hE:SgEnd L) (_hb:base≤w.heap.size) (hf:f+1≤20) (ht:L.getD a []=nmWrite):
  Calls Tryz.prog 44 #[.pointer (some ⟨R,0,none⟩),.int .i64 ((20 - (f+1):Nat):Int)] w (GenTold (f+1) base w R S L a):=by
 have hp:=hE.pass h.lt (by rw[ht];decide);have hG:gF (f+1) (L.drop a)=wrF (L.drop (a+1)):=by rw[drop_get h.lt,ht];rfl
 have HG:=hideIt hG;have HH:=hideIt h;have HEv:=hideIt he;have HN:=hideIt (next_any w R S L a 0 h);rw[ht] at HN;have HIs:=hideIt (fun W=>isName_yes nmWrite W (by simp));have HPs:=hideIt (fun W (k:RdAt W R S L a 0)=>pass_any W R S L a 0 k);rw[passS_ok hp] at HPs;have hX:∀x∈ [R],R≤x:=by simp
 have c2:=h.c2;have hRlt:=h.ltR;have e0:=ba_list nmWrite;have q19:¬(19:Int) < ((20 - (f+1):Nat):Int):=by omega
 have qw:wrap64 ((20 - f:Nat):Int)=((20 - f:Nat):Int):=by unfold wrap64;omega
 have qx:(((20 - (f+1):Nat):Int)+1)=((20 - f:Nat):Int):=by omega
 generalize ((20 - (f+1):Nat):Int)=ar at*
 generalize ((20 - f:Nat):Int)=ar2 at*
 simp only[nmWrite] at HN HIs e0;clear h he ht hG;go_enter Tryz.func44,Tryz.ntmps44
 go_wp2_with fail
 refine HN.out.mono ?_;rintro y w1 ⟨rfl,k1,rfl⟩;have HR1:=hideIt (HH.out.drewN k1);go_wp2_with fail
 refine(HIs.out _).mono ?_;rintro y w2 ⟨rfl,rfl⟩;go_wp2_with fail
 refine(HPs.out _ HR1.out).mono ?_;rintro y w3 ⟨rfl,h3,hf3⟩;have H3:=hideIt h3;have hF3:=(Fr.drewN [R] w k1).trans hf3;have HF3:=hideIt hF3;have HE3:=hideIt (HEv.out.fr hF3 hX);clear h3 hf3 hF3 c2;go_wp2_with fail
 refine(write_any _ R S L (a+1) 0 H3.out HE3.out).mono ?_;rintro y w4 ⟨rfl,h4,hf4⟩;have HF4:=hideIt (HF3.out.trans hf4);have HEnd:Hid (GenTold (f+1) base w R S L a (.returned (.iface 248 (.agg #[.int .i64 (wrS L (a+1) 0).k.v,.int .i64 (wrS L (a+1) 0).l.v,.int .i64 (wrS L (a+1) 0).t.v]))) w4):=by
  have hg:=HG.out;unfold wrF at hg;have hk:(wrS L (a+1) 0).k=numS L (a+1) 0 0 7:=rfl;have hl:(wrS L (a+1) 0).l=numS L (wrS L (a+1) 0).k.a (wrS L (a+1) 0).k.f (-1000000) 1000000:=rfl;have ht:(wrS L (a+1) 0).t=numS L (wrS L (a+1) 0).l.a (wrS L (a+1) 0).l.f (wrS L (a+1) 0).l.v 1000000:=rfl;generalize (wrS L (a+1) 0).k=k at*
  generalize (wrS L (a+1) 0).l=l at*
  generalize (wrS L (a+1) 0).t=t at*
  cases hn:numF 0 7 (L.drop (a+1)) with
  | none=>
   rw[hn] at hg;obtain⟨q1,q2⟩:=numS_none hp hn;rw[←hk] at q1 q2;have l2:=(numS_bad (L:=L) (a:=k.a) (lo:= -1000000) (hi:=1000000) q2).2;rw[←hl] at l2;have t2:=(numS_bad (L:=L) (a:=l.a) (lo:=l.v) (hi:=1000000) (fl:=l.f) (by rw[l2];exact q2)).2;rw[←ht] at t2;exact .inr ⟨_,_,_,hg,rfl,.inr ⟨_,_,rfl⟩,by rw[t2,l2];exact q2,h4,HF4.out⟩
  | some r=>
   rw[hn] at hg;obtain⟨q1,q2,q3,_,_⟩:=numS_ok hE hp hn;rw[q1] at hk;subst hk;simp only at hl hg;rw[←q2] at hg;cases hn2:numF (-1000000) 1000000 (L.drop (a+1+1)) with
   | none=>
    rw[hn2] at hg;obtain⟨p1,p2⟩:=numS_none q3 hn2;rw[←hl] at p1 p2;have t2:=(numS_bad (L:=L) (a:=l.a) (lo:=l.v) (hi:=1000000) p2).2;rw[←ht] at t2;exact .inr ⟨_,_,_,hg,rfl,.inr ⟨_,_,rfl⟩,by rw[t2];exact p2,h4,HF4.out⟩
   | some r2=>
    rw[hn2] at hg;obtain⟨p1,p2,p3,p4,p5⟩:=numS_ok hE q3 hn2;rw[p1] at hl;subst hl;simp only at ht hg;rw[←p2] at hg;cases hn3:numF r2.v 1000000 (L.drop (a+1+1+1)) with
    | none=>
     rw[hn3] at hg;obtain⟨o1,o2⟩:=numS_none p3 hn3;rw[←ht] at o1 o2;exact .inr ⟨_,_,_,hg,rfl,.inr ⟨_,_,rfl⟩,o2,h4,HF4.out⟩
    | some r3=>
     rw[hn3] at hg;obtain⟨o1,o2,o3,o4,o5⟩:=numS_ok hE p3 hn3;rw[o1] at ht;subst ht;exact .inl ⟨_,_,a+1+1+1+1,[],hg,rfl,h4,o2,by omega,⟨rfl,rfl,p4,o4,o5⟩,by simp,HF4.out⟩
 clear h4 hf4 HG;generalize (wrS L (a+1) 0).k.v=v1 at*
 generalize (wrS L (a+1) 0).l.v=v2 at*
 generalize (wrS L (a+1) 0).t.v=v3 at*
 go_wp2;go_ret;exact HEnd.out
set_option maxHeartbeats 8000000 in
theorem gen_limit {f:Nat} (ih:GenOk f) (base:Nat) (w:World) (R S:Nat) (L:List Bt) (a:Nat) (h:RdAt w R S L a 0) (he:RdEnv w R L) (hE:SgEnd L) (hb:base≤w.heap.size) (hf:f+1≤20) (ht:L.getD a []=nmLimit):
  Calls Tryz.prog 44 #[.pointer (some ⟨R,0,none⟩),.int .i64 ((20 - (f+1):Nat):Int)] w (GenTold (f+1) base w R S L a):=by
 have hp:=hE.pass h.lt (by rw[ht];decide);have hG:gF (f+1) (L.drop a)=(match numF 0 1000 (L.drop (a+1)) with | none=>none | some k=>match gF f k.s with | none=>none | some r=>some ⟨.lim r.g k.v.toNat,r.s⟩):=by rw[drop_get h.lt,ht];rfl
 have HG:=hideIt hG;have HH:=hideIt h;have HEv:=hideIt he;have HN:=hideIt (next_any w R S L a 0 h);rw[ht] at HN;have HIs:=hideIt (fun W=>isName_yes nmLimit W (by simp));have HPs:=hideIt (fun W (k:RdAt W R S L a 0)=>pass_any W R S L a 0 k);rw[passS_ok hp] at HPs;have hX:∀x∈ [R],R≤x:=by simp
 have c2:=h.c2;have hRlt:=h.ltR;have e0:=ba_list nmLimit;have q19:¬(19:Int) < ((20 - (f+1):Nat):Int):=by omega
 have qw:wrap64 ((20 - f:Nat):Int)=((20 - f:Nat):Int):=by unfold wrap64;omega
 have qx:(((20 - (f+1):Nat):Int)+1)=((20 - f:Nat):Int):=by omega
 have HGo:=hideIt (fun W a (k:RdAt W R S L a 0) (e:RdEnv W R L) (hb:base≤W.heap.size)=>ih.ok base W R S L a k e hE hb (by omega));have HGb:=hideIt (fun W a (fl:Int) (hfl:fl≠0) (k:RdAt W R S L a fl)=>ih.bad W R S L a fl hfl k (by omega));generalize ((20 - (f+1):Nat):Int)=ar at*
 generalize ((20 - f:Nat):Int)=ar2 at*
 simp only[nmLimit] at HN HIs e0;clear h he ht hG;go_enter Tryz.func44,Tryz.ntmps44
 go_wp2_with fail
 refine HN.out.mono ?_;rintro y w1 ⟨rfl,k1,rfl⟩;have HR1:=hideIt (HH.out.drewN k1);go_wp2_with fail
 refine(HIs.out _).mono ?_;rintro y w2 ⟨rfl,rfl⟩;go_wp2_with fail
 refine(HPs.out _ HR1.out).mono ?_;rintro y w3 ⟨rfl,h3,hf3⟩;have H3:=hideIt h3;have hF3:=(Fr.drewN [R] w k1).trans hf3;have HF3:=hideIt hF3;have HE3:=hideIt (HEv.out.fr hF3 hX);have hs3:=hF3.size;clear h3 hf3 hF3 c2;go_wp2_with fail
 refine(number_any _ R S L (a+1) 0 0 1000 H3.out HE3.out).mono ?_;rintro y w4 ⟨rfl,h4,hf4⟩;have HF4:=hideIt (HF3.out.trans hf4);have HE4:=hideIt (HE3.out.fr hf4 hX);have hs4:=hf4.size;cases hn:numF 0 1000 (L.drop (a+1)) with
 | none=>
  obtain⟨q1,q2⟩:=numS_none hp hn;have hg:=HG.out;rw[hn] at hg;have HGn:=hideIt hg;have H4:=hideIt h4;have HB:=hideIt (HGb.out _ _ _ q2 h4);clear h4 hf4 HG hn q1 hg;generalize numS L (a+1) 0 0 1000=q at*
  go_wp2_with fail
  refine HB.out.mono ?_;rintro y w5 ⟨rfl,h5,hf5⟩;have H5:=hideIt h5;have HF5:=hideIt (HF4.out.trans hf5);clear h5 hf5;go_wp2;go_ret;exact .inr ⟨_,_,_,HGn.out,rfl,.inr ⟨_,_,rfl⟩,q2,H5.out.fr (Fr.alloc [] _ _) (by simp) (by simp),HF5.out.trans (Fr.alloc _ _ _)⟩
 | some r=>
  obtain⟨q1,q2,q3,q4,q5⟩:=numS_ok hE hp hn;rw[q1] at h4 ⊢;have hg:=HG.out;rw[hn] at hg;simp only at hg;rw[←q2] at hg;have HGn:=hideIt hg;have HB:=hideIt (HGo.out _ _ h4 HE4.out (by omega));clear h4 hf4 HG hn q1 q2 hg;generalize hv:r.v=rv at*
  have hvn:rv=((rv.toNat:Nat):Int):=by omega
  have HV:=hideIt hvn;clear hvn;go_wp2_with fail
  refine HB.out.mono ?_;rintro y w5 htold;have htold2:∃v,y=.returned v∧IfV v∧GenTold f base w4 R S L (a+1+1) (.returned v) w5:=by
   rcases htold with ⟨r,v,a',bs,k1,rfl,k2,k3,k4,k5,k6,k7⟩ | ⟨v,a',fl',k1,rfl,k2,k3,k4,k5⟩
   ·exact⟨v,rfl,k5.ifv,.inl ⟨r,v,a',bs,k1,rfl,k2,k3,k4,k5,k6,k7⟩⟩
   ·exact⟨v,rfl,k2,.inr ⟨v,a',fl',k1,rfl,k2,k3,k4,k5⟩⟩
  obtain⟨v,rfl,hiv,htold3⟩:=htold2;have HEnd:Hid (GenTold (f+1) base w R S L a (.returned (.iface 184 (.pointer (some ⟨w5.heap.size,0,none⟩)))) (w5.alloc (.cells #[v,.int .i64 rv] 186))):=by
   have hal:Fr [] w5 (w5.alloc (.cells #[v,.int .i64 rv] 186)):=Fr.alloc _ _ _;have hnew:=heap_new w5 (.cells #[v,.int .i64 rv] 186);rcases htold3 with ⟨r',v',a',bs,k1,k0,k2,k3,k4,k5,k6,k7⟩ | ⟨v',a',fl',k1,k0,k2,k3,k4,k5⟩
   ·cases k0;have hs5:=k7.size;refine .inl ⟨⟨.lim r'.g rv.toNat,r'.s⟩,_,a',w5.heap.size::bs,by rw[HGn.out,k1],rfl,k2.fr hal (by simp) (by simp),k3,by omega,⟨w5.heap.size,v,bs,rfl,rfl,by omega,fun e=>by have:=(k5.in_ _ e).2;omega,?_,?_,?_,by omega,k5.fr hal (by simp)⟩,?_,(HF4.out.trans k7).trans (Fr.alloc _ _ _)⟩
    ·rw[cell_of_row _ _ _ _ _ _ hnew];rfl
    ·rw[cell_of_row _ _ _ _ _ _ hnew,←HV.out];rfl
    ·exact frozen_of_row _ _ _ _ _ hnew
    ·intro b hb2;rcases List.mem_cons.1 hb2 with e | e
     ·exact⟨by omega,by rw[e];exact NL.new hnew (by decide)⟩
     ·exact⟨by have:=k6 b e;omega,(k6 b e).2.of (hal.block b (k5.in_ _ e).2 (by simp))⟩
   ·cases k0;exact .inr ⟨_,a',fl',by rw[HGn.out,k1],rfl,.inr ⟨_,_,rfl⟩,k3,k4.fr hal (by simp) (by simp),(HF4.out.trans k5).trans (Fr.alloc _ _ _)⟩
  have hvc:=hiv.cells;clear htold htold3 HGn;rcases hiv with rfl | ⟨T1,x1,rfl⟩;all_goals (
   go_wp2;go_ret;exact HEnd.out)
set_option maxHeartbeats 8000000 in
theorem gen_mix {f:Nat} (ih:GenOk f) (base:Nat) (w:World) (R S:Nat) (L:List Bt) (a:Nat) (h:RdAt w R S L a 0) (he:RdEnv w R L) (hE:SgEnd L) (hb:base≤w.heap.size) (hf:f+1≤20) (ht:L.getD a []=nmMix):
  Calls Tryz.prog 44 #[.pointer (some ⟨R,0,none⟩),.int .i64 ((20 - (f+1):Nat):Int)] w (GenTold (f+1) base w R S L a):=by
 have hp:=hE.pass h.lt (by rw[ht];decide);have hG:gF (f+1) (L.drop a)=(match listF (gF f) (L.drop (a+1)) with | none=>none | some r=>some ⟨.mix r.l,r.s⟩):=by rw[drop_get h.lt,ht];rfl
 have HG:=hideIt hG;have HH:=hideIt h;have HEv:=hideIt he;have HN:=hideIt (next_any w R S L a 0 h);rw[ht] at HN;have HIs:=hideIt (fun W=>isName_yes nmMix W (by simp));have HPs:=hideIt (fun W (k:RdAt W R S L a 0)=>pass_any W R S L a 0 k);rw[passS_ok hp] at HPs;have hX:∀x∈ [R],R≤x:=by simp
 have c2:=h.c2;have hRlt:=h.ltR;have e0:=ba_list nmMix;have q19:¬(19:Int) < ((20 - (f+1):Nat):Int):=by omega
 have qw:wrap64 ((20 - f:Nat):Int)=((20 - f:Nat):Int):=by unfold wrap64;omega
 have qx:(((20 - (f+1):Nat):Int)+1)=((20 - f:Nat):Int):=by omega
 have HL:=hideIt (fun W (k:RdAt W R S L (a+1) 0) (e:RdEnv W R L) (hb:base≤W.heap.size)=>list_ok ih base W R S L (a+1) k e hE hb (by omega));generalize ((20 - (f+1):Nat):Int)=ar at*
 generalize ((20 - f:Nat):Int)=ar2 at*
 simp only[nmMix] at HN HIs e0;clear h he ht hG;go_enter Tryz.func44,Tryz.ntmps44
 go_wp2_with fail
 refine HN.out.mono ?_;rintro y w1 ⟨rfl,k1,rfl⟩;have HR1:=hideIt (HH.out.drewN k1);go_wp2_with fail
 refine(HIs.out _).mono ?_;rintro y w2 ⟨rfl,rfl⟩;go_wp2_with fail
 refine(HPs.out _ HR1.out).mono ?_;rintro y w3 ⟨rfl,h3,hf3⟩;have H3:=hideIt h3;have hF3:=(Fr.drewN [R] w k1).trans hf3;have HF3:=hideIt hF3;have HE3:=hideIt (HEv.out.fr hF3 hX);have hs3:=hF3.size;clear h3 hf3 hF3 c2;go_wp2_with fail
 refine(HL.out _ H3.out HE3.out (by omega)).mono ?_;rintro y w5 htold;have htold2:∃a8 n c,y=.returned (.slice a8 n c)∧ListTold f base w3 R S L (a+1) (.returned (.slice a8 n c)) w5:=by
  rcases htold with ⟨r,g,cap,us,cs,a',k1,rfl,k⟩ | ⟨a8,n,c,a',fl',k1,rfl,k⟩
  ·exact⟨_,_,_,rfl,.inl ⟨r,g,cap,us,cs,a',k1,rfl,k⟩⟩
  ·exact⟨_,_,_,rfl,.inr ⟨a8,n,c,a',fl',k1,rfl,k⟩⟩
 obtain⟨a8,n8,c8,rfl,htold3⟩:=htold2;have HEnd:Hid (GenTold (f+1) base w R S L a (.returned (.iface 187 (.pointer (some ⟨w5.heap.size,0,none⟩)))) (w5.alloc (.cells #[.slice a8 n8 c8] 191))):=by
  have hal:Fr [] w5 (w5.alloc (.cells #[.slice a8 n8 c8] 191)):=Fr.alloc _ _ _;have hnew:=heap_new w5 (.cells #[.slice a8 n8 c8] 191);rcases htold3 with ⟨r',g,cap,us,cs,a',k1,k0,k2,k3,k4,k6,k7,k8,k9,k10,k11,k12⟩ | ⟨b8,m8,d8,a',fl',k1,k0,k3,k4,k5⟩
  ·have k0':Value.slice a8 n8 c8=.slice (some ⟨g,0,none⟩) r'.l.length cap:=by injection k0
   have hs5:=k12.size;have hgl:g < w5.heap.size:=by
    rcases k6.2 with ⟨e,_⟩ | ⟨g2,c2,cur,e,_,e2,_⟩
    ·cases e
    ·have e':(⟨g,0,none⟩:Addr)=⟨g2,0,none⟩:=by injection e with e _ _;injection e
     injection e' with e' _
     rw[e'];exact(Array.getElem?_eq_some_iff.1 e2).1
   rw[k0'] at hal hnew ⊢;refine .inl ⟨⟨.mix r'.l,r'.s⟩,_,a',w5.heap.size::g::cs,by rw[HG.out,k1],rfl,k2.fr hal (by simp) (by simp),k3,by omega,⟨w5.heap.size,g,cap,us,cs,rfl,rfl,by omega,by omega,?_,k8,?_,?_,ownsRow_blk k6 (fun y hy=>by have hy':some g=some y:=hy;injection hy' with e;exact hal.block y (by rw[←e];exact hgl) (by simp)),k11,k7.mono (fun v gg xs hxs hp=>hp.fr hal (by simp))⟩,?_,(HF3.out.trans k12).trans (Fr.alloc _ _ _)⟩
   ·intro e;have:=(k7.all (fun v g bs hp=>hp.in_) _ e).2;omega
   ·rw[cell_of_row _ _ _ _ _ _ hnew];rfl
   ·exact frozen_of_row _ _ _ _ _ hnew
   ·intro b hb2;rcases List.mem_cons.1 hb2 with e | e
    ·exact⟨by omega,by rw[e];exact NL.new hnew (by decide)⟩
    rcases List.mem_cons.1 e with e | e
    ·exact⟨by omega,by rw[e];exact(NL.own k6 (by decide)).of (hal.block g hgl (by simp))⟩
    ·exact⟨by have:=k10 b e;omega,(k10 b e).2.of (hal.block b (k7.all (fun v g bs hp=>hp.in_) _ e).2 (by simp))⟩
  ·exact .inr ⟨_,a',fl',by rw[HG.out,k1],rfl,.inr ⟨_,_,rfl⟩,k3,k4.fr hal (by simp) (by simp),(HF3.out.trans k5).trans (Fr.alloc _ _ _)⟩
 clear htold htold3 HG;go_wp2;go_ret;exact HEnd.out
set_option maxHeartbeats 8000000 in
theorem gen_then {f:Nat} (ih:GenOk f) (base:Nat) (w:World) (R S:Nat) (L:List Bt) (a:Nat) (h:RdAt w R S L a 0) (he:RdEnv w R L) (hE:SgEnd L) (hb:base≤w.heap.size) (hf:f+1≤20) (ht:L.getD a []=nmThen):
  Calls Tryz.prog 44 #[.pointer (some ⟨R,0,none⟩),.int .i64 ((20 - (f+1):Nat):Int)] w (GenTold (f+1) base w R S L a):=by
 have hp:=hE.pass h.lt (by rw[ht];decide);have hG:gF (f+1) (L.drop a)=(match listF (gF f) (L.drop (a+1)) with | none=>none | some r=>some ⟨.thn r.l,r.s⟩):=by rw[drop_get h.lt,ht];rfl
 have HG:=hideIt hG;have HH:=hideIt h;have HEv:=hideIt he;have HN:=hideIt (next_any w R S L a 0 h);rw[ht] at HN;have HIs:=hideIt (fun W=>isName_yes nmThen W (by simp));have HPs:=hideIt (fun W (k:RdAt W R S L a 0)=>pass_any W R S L a 0 k);rw[passS_ok hp] at HPs;have hX:∀x∈ [R],R≤x:=by simp
 have c2:=h.c2;have hRlt:=h.ltR;have e0:=ba_list nmThen;have q19:¬(19:Int) < ((20 - (f+1):Nat):Int):=by omega
 have qw:wrap64 ((20 - f:Nat):Int)=((20 - f:Nat):Int):=by unfold wrap64;omega
 have qx:(((20 - (f+1):Nat):Int)+1)=((20 - f:Nat):Int):=by omega
 have HL:=hideIt (fun W (k:RdAt W R S L (a+1) 0) (e:RdEnv W R L) (hb:base≤W.heap.size)=>list_ok ih base W R S L (a+1) k e hE hb (by omega));generalize ((20 - (f+1):Nat):Int)=ar at*
 generalize ((20 - f:Nat):Int)=ar2 at*
 simp only[nmThen] at HN HIs e0;clear h he ht hG;go_enter Tryz.func44,Tryz.ntmps44
 go_wp2_with fail
 refine HN.out.mono ?_;rintro y w1 ⟨rfl,k1,rfl⟩;have HR1:=hideIt (HH.out.drewN k1);go_wp2_with fail
 refine(HIs.out _).mono ?_;rintro y w2 ⟨rfl,rfl⟩;go_wp2_with fail
 refine(HPs.out _ HR1.out).mono ?_;rintro y w3 ⟨rfl,h3,hf3⟩;have H3:=hideIt h3;have hF3:=(Fr.drewN [R] w k1).trans hf3;have HF3:=hideIt hF3;have HE3:=hideIt (HEv.out.fr hF3 hX);have hs3:=hF3.size;clear h3 hf3 hF3 c2;go_wp2_with fail
 refine(HL.out _ H3.out HE3.out (by omega)).mono ?_;rintro y w5 htold;have htold2:∃a8 n c,y=.returned (.slice a8 n c)∧ListTold f base w3 R S L (a+1) (.returned (.slice a8 n c)) w5:=by
  rcases htold with ⟨r,g,cap,us,cs,a',k1,rfl,k⟩ | ⟨a8,n,c,a',fl',k1,rfl,k⟩
  ·exact⟨_,_,_,rfl,.inl ⟨r,g,cap,us,cs,a',k1,rfl,k⟩⟩
  ·exact⟨_,_,_,rfl,.inr ⟨a8,n,c,a',fl',k1,rfl,k⟩⟩
 obtain⟨a8,n8,c8,rfl,htold3⟩:=htold2;have HEnd:Hid (GenTold (f+1) base w R S L a (.returned (.iface 192 (.pointer (some ⟨w5.heap.size,0,none⟩)))) (w5.alloc (.cells #[.slice a8 n8 c8] 193))):=by
  have hal:Fr [] w5 (w5.alloc (.cells #[.slice a8 n8 c8] 193)):=Fr.alloc _ _ _;have hnew:=heap_new w5 (.cells #[.slice a8 n8 c8] 193);rcases htold3 with ⟨r',g,cap,us,cs,a',k1,k0,k2,k3,k4,k6,k7,k8,k9,k10,k11,k12⟩ | ⟨b8,m8,d8,a',fl',k1,k0,k3,k4,k5⟩
  ·have k0':Value.slice a8 n8 c8=.slice (some ⟨g,0,none⟩) r'.l.length cap:=by injection k0
   have hs5:=k12.size;have hgl:g < w5.heap.size:=by
    rcases k6.2 with ⟨e,_⟩ | ⟨g2,c2,cur,e,_,e2,_⟩
    ·cases e
    ·have e':(⟨g,0,none⟩:Addr)=⟨g2,0,none⟩:=by injection e with e _ _;injection e
     injection e' with e' _
     rw[e'];exact(Array.getElem?_eq_some_iff.1 e2).1
   rw[k0'] at hal hnew ⊢;refine .inl ⟨⟨.thn r'.l,r'.s⟩,_,a',w5.heap.size::g::cs,by rw[HG.out,k1],rfl,k2.fr hal (by simp) (by simp),k3,by omega,⟨w5.heap.size,_,g,us,cs,rfl,rfl,by omega,by omega,?_,k8,?_,?_,⟨0,cap,by rw[k7.len],?_,?_,?_,?_,?_⟩,k11,k7.mono (fun v gg xs hxs hp=>hp.fr hal (by simp))⟩,?_,(HF3.out.trans k12).trans (Fr.alloc _ _ _)⟩
   ·intro e;have:=(k7.all (fun v g bs hp=>hp.in_) _ e).2;omega
   ·rw[cell_of_row _ _ _ _ _ _ hnew];rfl
   ·exact frozen_of_row _ _ _ _ _ hnew
   ·rw[k7.len];rcases k6.2 with ⟨e,_⟩ | ⟨g2,c2,cur,e,_,_,e3,_⟩
    ·cases e
    ·injection e with _ _ e;rw[e];exact e3
   ·rcases k6.2 with ⟨e,_⟩ | ⟨g2,c2,cur,e,_,_,_,e3,_⟩
    ·cases e
    ·injection e with _ _ e;rw[e];exact e3
   ·omega
   ·exact Nat.lt_of_lt_of_le hgl hal.size
   ·intro i hi;have hi2:i < r'.l.length:=by rw[←k7.len];exact hi
    refine(World.cell?_of_block (a:=⟨g,0+i,none⟩) (hal.block g hgl (by simp))).trans ?_;rw[Nat.zero_add,k6.cellAt i (by omega),List.getElem?_eq_getElem hi]
   ·intro b hb2;rcases List.mem_cons.1 hb2 with e | e
    ·exact⟨by omega,by rw[e];exact NL.new hnew (by decide)⟩
    rcases List.mem_cons.1 e with e | e
    ·exact⟨by omega,by rw[e];exact(NL.own k6 (by decide)).of (hal.block g hgl (by simp))⟩
    ·exact⟨by have:=k10 b e;omega,(k10 b e).2.of (hal.block b (k7.all (fun v g bs hp=>hp.in_) _ e).2 (by simp))⟩
  ·exact .inr ⟨_,a',fl',by rw[HG.out,k1],rfl,.inr ⟨_,_,rfl⟩,k3,k4.fr hal (by simp) (by simp),(HF3.out.trans k5).trans (Fr.alloc _ _ _)⟩
 clear htold htold3 HG;go_wp2;go_ret;exact HEnd.out
set_option maxHeartbeats 4000000 in
theorem gen_none {f:Nat} (base:Nat) (w:World) (R S:Nat) (L:List Bt) (a:Nat) (h:RdAt w R S L a 0) (hf:f+1≤20) (n1:L.getD a []≠nmRead) (n2:L.getD a []≠nmWrite) (n3:L.getD a []≠nmLimit) (n4:L.getD a []≠nmMix) (n5:L.getD a []≠nmThen):
  Calls Tryz.prog 44 #[.pointer (some ⟨R,0,none⟩),.int .i64 ((20 - (f+1):Nat):Int)] w (GenTold (f+1) base w R S L a):=by
 have hG:gF (f+1) (L.drop a)=none:=by rw[drop_get h.lt];simp only[gF,if_neg n1,if_neg n2,if_neg n3,if_neg n4,if_neg n5]
 have HG:=hideIt hG;have HH:=hideIt h;have HN:=hideIt (next_any w R S L a 0 h);have HI:=hideIt (fun W=>isName_no (L.getD a []) W n1 n2 n3 n4 n5);have HFl:=hideIt (fun W (k:RdAt W R S L a 0)=>fail_any W R S L a 0 3 k);rw[failS_ok] at HFl;have c2:=h.c2;have q19:¬(19:Int) < ((20 - (f+1):Nat):Int):=by omega
 generalize ((20 - (f+1):Nat):Int)=ar at*
 generalize L.getD a []=t at*
 clear h hG n1 n2 n3 n4 n5;go_enter Tryz.func44,Tryz.ntmps44
 go_wp2_with fail
 refine HN.out.mono ?_;rintro y w1 ⟨rfl,k1,rfl⟩;go_wp2_with fail
 refine(HI.out _).mono ?_;rintro y w2 ⟨rfl,rfl⟩;go_wp2_with fail
 refine(HFl.out _ (HH.out.drewN k1)).mono ?_;rintro y w3 ⟨rfl,h3,hf3⟩;have H3:=hideIt h3;have HF3:=hideIt ((Fr.drewN [R] w k1).trans hf3);clear h3 hf3;go_wp2;go_ret;exact .inr ⟨_,a,3,HG.out,rfl,.inl rfl,by decide,H3.out,HF3.out⟩
theorem genOk:∀f,GenOk f
 | 0=>gen_zero
 | f+1=> {
  bad:=gen_bad (f+1)
  ok:=fun base w R S L a h he hE hb hf=>by
   have ih:=genOk f;by_cases n1:L.getD a []=nmRead
   ·exact gen_read ih base w R S L a h he hE hb hf n1
   by_cases n2:L.getD a []=nmWrite
   ·exact gen_write ih base w R S L a h he hE hb hf n2
   by_cases n3:L.getD a []=nmLimit
   ·exact gen_limit ih base w R S L a h he hE hb hf n3
   by_cases n4:L.getD a []=nmMix
   ·exact gen_mix ih base w R S L a h he hE hb hf n4
   by_cases n5:L.getD a []=nmThen
   ·exact gen_then ih base w R S L a h he hE hb hf n5
   ·exact gen_none base w R S L a h hf n1 n2 n3 n4 n5}
end Go.Proofs.YtjpklmighoondaaGreatDoor.Gn
