/-
  The reader's numbers.
  The reader's number, key and write.
  strings' Cut and Split, strconv's ParseInt and FormatInt, laid at this program: numbers of its functions and types, and a fact a field.
  A number of 64 bits, walked.
  Objects in plain Lean: which calls an object knows, its state at first, what a call makes of a state, and what it tells.
-/
import Derived.Test.YtjpklmighoondaaGreatDoorGnHY
import Derived.Shelf.Strconv.ErrVarParseInt
import Derived.Shelf.Strconv.Itoa4
import Derived.Shelf.Strings.Cut
import Derived.Shelf.Strings.Split
import Derived.Test.YtjpklmighoondaaGreatDoorProg
import Derived.Lib.LaidTab
import Derived.Lib.ItoaNum
import Derived.Lib.ParseIntBTie
import Derived.WalkKit
set_option maxRecDepth 100000
namespace Go.Proofs.YtjpklmighoondaaGreatDoor.Gn
open Go.RowKit
set_option maxHeartbeats 4000000 in
theorem isNumber_any (t:Bt) (w:World) (ht:t.length≤2500):
  Calls Tryz.prog 146 #[.string (ba t)] w fun e w'=>e=.returned (.bool (isNum t))∧Fr [] w w':=by
 have HP:=hideIt (fun W=>trimPrefix_call t [45] W);have hdl:(Lib.trimPrefix t [45]).length≤3000:=by
  unfold Lib.trimPrefix
  split
  ·rw[List.length_drop];omega
  ·omega
 have HT:=hideIt (fun W=>trim_call (Lib.trimPrefix t [45]) W hdl);have hb2:∀b,(if Lib.trimS (Lib.trimPrefix t [45]) digs≠ [] then false else (t= [48]||(Lib.trimPrefix t [45]≠ []&&(Lib.trimPrefix t [45]).headD 0 != 48)))=b→isNum t=b:=fun b h=>h
 clear hdl;generalize Lib.trimPrefix t [45]=d at*
 generalize Lib.trimS d digs=tr at*
 have e1:=ba_list t;have e2:=ba_list d;have e3:=ba_list tr;by_cases htr:tr= []
 ·subst htr;rw[if_neg (by simp)] at hb2;by_cases h0:t= [48]
  ·have hB:=hideIt (hb2 true (by simp[h0]));have q0:(t== [48])=true:=by simp[h0]
   clear hb2 h0;go_enter Tryz.func146,Tryz.ntmps146
   go_wp2_with fail
   refine(HP.out _).mono ?_;rintro y w1 ⟨rfl,rfl⟩;go_wp2_with fail
   refine(HT.out _).mono ?_;rintro y w2 ⟨rfl,hb2⟩;have HF2:=hideIt (fr_below hb2 []);clear hb2;go_wp2;go_ret;exact⟨by rw[hB.out];rfl,HF2.out⟩
  ·have q0:(t== [48])=false:=by simp[h0]
   cases d with
   | nil=>
    have hB:=hideIt (hb2 false (by simp[h0]));clear hb2 h0;go_enter Tryz.func146,Tryz.ntmps146
    go_wp2_with fail
    refine(HP.out _).mono ?_;rintro y w1 ⟨rfl,rfl⟩;go_wp2_with fail
    refine(HT.out _).mono ?_;rintro y w2 ⟨rfl,hb2⟩;have HF2:=hideIt (fr_below hb2 []);clear hb2;go_wp2;go_ret;exact⟨by rw[hB.out];rfl,HF2.out⟩
   | cons c d=>
    have hs:0 < (ba (c::d)).size:=by rw[ba_size];simp
    have hv:((ba (c::d))[0]'hs).toNat=c.toNat:=rfl;cases hc:(c != 48) with
    | true=>
     have hB:=hideIt (hb2 true (by simp only[List.headD_cons,hc];simp));have q2:((((ba (c::d))[0]'hs).toNat:Int) != 48)=true:=by
      rw[hv];have:c≠48:=by simpa using hc
      have h2:c.toNat≠48:=fun e=>this (UInt8.toNat_inj.1 e)
      simp;omega
     clear hb2 h0 hc hv;go_enter Tryz.func146,Tryz.ntmps146
     go_wp2_with fail
     refine(HP.out _).mono ?_;rintro y w1 ⟨rfl,rfl⟩;go_wp2_with fail
     refine(HT.out _).mono ?_;rintro y w2 ⟨rfl,hb2⟩;have HF2:=hideIt (fr_below hb2 []);clear hb2;go_wp2;go_ret;exact⟨by rw[hB.out];rfl,HF2.out⟩
    | false=>
     have hB:=hideIt (hb2 false (by simp only[List.headD_cons,hc];simp[h0]));have q2:((((ba (c::d))[0]'hs).toNat:Int) != 48)=false:=by
      rw[hv];have:c=48:=by simpa using hc
      rw[this];rfl
     clear hb2 h0 hc hv;go_enter Tryz.func146,Tryz.ntmps146
     go_wp2_with fail
     refine(HP.out _).mono ?_;rintro y w1 ⟨rfl,rfl⟩;go_wp2_with fail
     refine(HT.out _).mono ?_;rintro y w2 ⟨rfl,hb2⟩;have HF2:=hideIt (fr_below hb2 []);clear hb2;go_wp2;go_ret;exact⟨by rw[hB.out];rfl,HF2.out⟩
 ·have hB:=hideIt (hb2 false (by rw[if_pos htr]));have q0:tr.isEmpty=false:=by cases tr with
   | nil=>exact absurd rfl htr
   | cons _ _=>rfl
  clear hb2;go_enter Tryz.func146,Tryz.ntmps146
  go_wp2_with fail
  refine(HP.out _).mono ?_;rintro y w1 ⟨rfl,rfl⟩;go_wp2_with fail
  refine(HT.out _).mono ?_;rintro y w2 ⟨rfl,hb2⟩;have HF2:=hideIt (fr_below hb2 []);clear hb2;go_wp2;go_ret;exact⟨by rw[hB.out];rfl,HF2.out⟩
open Go.RowKit
noncomputable def gRng : Nat := (Tryz.prog.globalNamed "strconv.ErrRange").getD 0
noncomputable def gSyn : Nat := (Tryz.prog.globalNamed "strconv.ErrSyntax").getD 0
theorem gRng_eq : Tryz.prog.globalNamed "strconv.ErrRange" = some gRng := by kernel_rfl
theorem gSyn_eq : Tryz.prog.globalNamed "strconv.ErrSyntax" = some gSyn := by kernel_rfl
theorem var_blk {w w':World} {nm:String} {g:Nat} {cs:Array Value} (hg:Tryz.prog.globalNamed nm=some g) (h:w.var? Tryz.prog nm=some cs):g < w.heap.size∧(w'.heap[g]?=w.heap[g]?→w'.var? Tryz.prog nm=some cs):=by
 unfold World.var? at h ⊢;rw[hg] at h ⊢;simp only[Option.bind_some] at h ⊢;refine⟨?_,fun e=>by rw[e];exact h⟩;rcases Nat.lt_or_ge g w.heap.size with hl | hl
 ·exact hl
 ·rw[Array.getElem?_eq_none hl] at h;cases h
theorem ErrV.lt {w:World} (h:ErrV w):gRng < w.heap.size∧gSyn < w.heap.size:=by
 obtain⟨⟨tp,p,h1⟩,⟨tq,q,h2⟩⟩:=h;exact⟨(var_blk (w':=w) gRng_eq h1).1,(var_blk (w':=w) gSyn_eq h2).1⟩
theorem ErrV.fr {w w':World} {X:List Nat} (h:ErrV w) (hg:Fr X w w') (h1:gRng∉X) (h2:gSyn∉X):ErrV w':=by
 have hl:=h.lt;obtain⟨⟨tp,p,k1⟩,⟨tq,q,k2⟩⟩:=h;exact⟨⟨tp,p,(var_blk gRng_eq k1).2 (hg.block _ hl.1 h1)⟩,⟨tq,q,(var_blk gSyn_eq k2).2 (hg.block _ hl.2 h2)⟩⟩
structure Ns where
 v:Int
 a:Nat
 f:Int
def numS (L:List Bt) (a:Nat) (fl lo hi:Int):Ns:=
 if isNum (L.getD a [])=true then match Lib.atoiAll (L.getD a []) with
  | .ok n=>if n < lo∨hi < n then⟨0,a,failS fl 2⟩ else⟨n,passS L.length a fl,fl⟩
  | _=>⟨0,a,failS fl 2⟩
 else⟨0,a,failS fl 3⟩
structure RdEnv (w : World) (R : Nat) (L : List Bt) : Prop where
 err:ErrV w
 g1:gRng < R
 g2:gSyn < R
 short:∀t∈L,t.length≤2500
theorem RdEnv.fr {w w':World} {R:Nat} {L:List Bt} {X:List Nat} (h:RdEnv w R L) (hg:Fr X w w') (hX:∀x∈X,R≤x):RdEnv w' R L:=
 ⟨h.err.fr hg (fun e=>by have:=hX _ e;have:=h.g1;omega) (fun e=>by have:=hX _ e;have:=h.g2;omega),h.g1,h.g2,h.short⟩
theorem RdEnv.get {w:World} {R:Nat} {L:List Bt} (h:RdEnv w R L) (a:Nat):(L.getD a []).length≤2500:=by
 rw[List.getD_eq_getElem?_getD];cases e:L[a]? with
 | none=>simp
 | some t=>exact h.short t (List.mem_of_getElem? e)
set_option maxHeartbeats 4000000 in
theorem number_any (w:World) (R S:Nat) (L:List Bt) (a:Nat) (fl lo hi:Int) (h:RdAt w R S L a fl) (he:RdEnv w R L):
  Calls Tryz.prog 99 #[.pointer (some ⟨R,0,none⟩),.int .i64 lo,.int .i64 hi] w fun e w'=>e=.returned (.int .i64 (numS L a fl lo hi).v)∧RdAt w' R S L (numS L a fl lo hi).a (numS L a fl lo hi).f∧Fr [R] w w':=by
 have HH:=hideIt h;have HE:=hideIt he;have hS:S≠R:=h.ne;have HN:=hideIt (next_any w R S L a fl h);have hlen:=he.get a;have HI:=hideIt (fun W=>isNumber_any (L.getD a []) W hlen);have HA:=hideIt (fun W (hv:ErrV W)=>atoi_call (L.getD a []) W (by omega) hv);obtain⟨q,hq⟩:∃q,numS L a fl lo hi=q:=⟨_,rfl⟩;have hq':=hq;rw[hq];unfold numS at hq';have HQ:=hideIt hq';clear h he hlen hq hq';generalize L.getD a []=t at*
 cases hn:isNum t with
 | false=>
  have e1:q=⟨0,a,failS fl 3⟩:=by rw[←HQ.out,hn];rfl
  rw[hn] at HI;subst e1;clear HQ hn;go_enter Tryz.func99,Tryz.ntmps99
  go_wp2_with fail
  refine HN.out.mono ?_;rintro y w1 ⟨rfl,k1,rfl⟩;go_wp2_with fail
  refine(HI.out _).mono ?_;rintro y w2 ⟨rfl,hf2⟩;have HF2:=hideIt ((Fr.drewN [R] w k1).trans (hf2.more (by simp)));have HR2:=hideIt (HH.out.fr ((Fr.drewN [] w k1).trans hf2) (by simp) (by simp));clear hf2;go_wp2_with fail
  refine(fail_any _ R S L a fl 3 HR2.out).mono ?_;rintro y w3 ⟨rfl,h3,hf3⟩;have H3:=hideIt h3;have HF3:=hideIt (HF2.out.trans hf3);clear h3 hf3;go_wp2;go_ret;exact⟨rfl,H3.out,HF3.out⟩
 | true=>
  rw[hn] at HI;have hqt:=HQ.out;rw[hn,if_pos rfl] at hqt;have HQ2:=hideIt hqt;clear HQ hn hqt;go_enter Tryz.func99,Tryz.ntmps99
  go_wp2_with fail
  refine HN.out.mono ?_;rintro y w1 ⟨rfl,k1,rfl⟩;go_wp2_with fail
  refine(HI.out _).mono ?_;rintro y w2 ⟨rfl,hf2⟩;have hF2:=(Fr.drewN [] w k1).trans hf2;have HF2:=hideIt hF2;have HR2:=hideIt (HH.out.fr hF2 (by simp) (by simp));have HV2:=hideIt (HE.out.err.fr hF2 (by simp) (by simp));clear hf2 hF2;go_wp2_with fail
  refine(HA.out _ HV2.out).mono ?_;rintro y w3 ⟨hf3,⟨v,hv,rfl⟩ | ⟨hv,n,T,x,rfl⟩⟩
  ·have HF3:=hideIt (HF2.out.trans hf3);have HR3:=hideIt (HR2.out.fr hf3 (by simp) (by simp));have hq2:=HQ2.out;rw[hv] at hq2;simp only at hq2;clear hf3 hv HQ2;by_cases hlo:v < lo
   ·have e1:q=⟨0,a,failS fl 2⟩:=by rw[←hq2,if_pos (Or.inl hlo)]
    subst e1;clear hq2;go_wp2_with fail
    refine(fail_any _ R S L a fl 2 HR3.out).mono ?_;rintro y w4 ⟨rfl,h4,hf4⟩;have H4:=hideIt h4;have HF4:=hideIt ((HF3.out.more (Y:= [R]) (by simp)).trans hf4);clear h4 hf4;go_wp2;go_ret;exact⟨rfl,H4.out,HF4.out⟩
   ·by_cases hhi:hi < v
    ·have e1:q=⟨0,a,failS fl 2⟩:=by rw[←hq2,if_pos (Or.inr hhi)]
     subst e1;clear hq2;go_wp2_with fail
     refine(fail_any _ R S L a fl 2 HR3.out).mono ?_;rintro y w4 ⟨rfl,h4,hf4⟩;have H4:=hideIt h4;have HF4:=hideIt ((HF3.out.more (Y:= [R]) (by simp)).trans hf4);clear h4 hf4;go_wp2;go_ret;exact⟨rfl,H4.out,HF4.out⟩
    ·have e1:q=⟨v,passS L.length a fl,fl⟩:=by rw[←hq2,if_neg (by omega)]
     subst e1;clear hq2;go_wp2_with fail
     refine(pass_any _ R S L a fl HR3.out).mono ?_;rintro y w4 ⟨rfl,h4,hf4⟩;have H4:=hideIt h4;have HF4:=hideIt ((HF3.out.more (Y:= [R]) (by simp)).trans hf4);clear h4 hf4;go_wp2;go_ret;exact⟨rfl,H4.out,HF4.out⟩
  ·have HF3:=hideIt (HF2.out.trans hf3);have HR3:=hideIt (HR2.out.fr hf3 (by simp) (by simp));have e1:q=⟨0,a,failS fl 2⟩:=by
    rw[←HQ2.out];cases ha:Lib.atoiAll t with
    | ok v=>exact absurd ha (hv v)
    | «syntax» =>rfl
    | range=>rfl
   subst e1;clear HQ2 hv hf3;go_wp2_with fail
   refine(fail_any _ R S L a fl 2 HR3.out).mono ?_;rintro y w4 ⟨rfl,h4,hf4⟩;have H4:=hideIt h4;have HF4:=hideIt ((HF3.out.more (Y:= [R]) (by simp)).trans hf4);clear h4 hf4;go_wp2;go_ret;exact⟨rfl,H4.out,HF4.out⟩
open Go.Shelf
def nu_laysC174_ren:Go.Shelf.Ren:=⟨fun | 174=>181 | 247=>237 | 245=>223 | 287=>272 | 279=>262 | 280=>263 | 281=>264 | 282=>265 | 321=>285 | 322=>286 | 316=>280 | 171=>26 | 205=>281 | 243=>64 | 246=>124 | 283=>173 | 284=>174 | 285=>175 | 286=>176 | 129=>199 | 317=>229 | 318=>230 | 319=>231 | 320=>232 | 337=>270 | 338=>271 | n=>n,fun | 9=>9 | 3=>3 | 2=>2 | 75=>29 | 85=>284 | 4=>4 | 167=>366 | 5=>5 | 53=>164 | 175=>377 | 46=>70 | 168=>367 | 37=>134 | 0=>0 | 210=>385 | 21=>21 | 127=>216 | 145=>396 | 143=>394 | 171=>276 | 173=>279 | 212=>332 | 51=>300 | 20=>20 | 213=>333 | 232=>391 | 233=>392 | 80=>142 | n=>n,fun | 15=>6 | 16=>7 | 17=>3 | 18=>8 | 19=>9 | n=>n⟩
theorem nu_laysC174:Go.Proofs.LaysC.n174 Tryz.prog nu_laysC174_ren:= {
 mixed:=by kernel_rfl
 f129:=Tryz.func199.trans (congrArg some (by kernel_rfl))
 f171:=Tryz.func26.trans (congrArg some (by kernel_rfl))
 f174:=Tryz.func181.trans (congrArg some (by kernel_rfl))
 f205:=Tryz.func281.trans (congrArg some (by kernel_rfl))
 f243:=Tryz.func64.trans (congrArg some (by kernel_rfl))
 f245:=Tryz.func223.trans (congrArg some (by kernel_rfl))
 f246:=Tryz.func124.trans (congrArg some (by kernel_rfl))
 f247:=Tryz.func237.trans (congrArg some (by kernel_rfl))
 f279:=Tryz.func262.trans (congrArg some (by kernel_rfl))
 f280:=Tryz.func263.trans (congrArg some (by kernel_rfl))
 f281:=Tryz.func264.trans (congrArg some (by kernel_rfl))
 f282:=Tryz.func265.trans (congrArg some (by kernel_rfl))
 f283:=Tryz.func173.trans (congrArg some (by kernel_rfl))
 f284:=Tryz.func174.trans (congrArg some (by kernel_rfl))
 f285:=Tryz.func175.trans (congrArg some (by kernel_rfl))
 f286:=Tryz.func176.trans (congrArg some (by kernel_rfl))
 f287:=Tryz.func272.trans (congrArg some (by kernel_rfl))
 f316:=Tryz.func280.trans (congrArg some (by kernel_rfl))
 f317:=Tryz.func229.trans (congrArg some (by kernel_rfl))
 f318:=Tryz.func230.trans (congrArg some (by kernel_rfl))
 f319:=Tryz.func231.trans (congrArg some (by kernel_rfl))
 f320:=Tryz.func232.trans (congrArg some (by kernel_rfl))
 f321:=Tryz.func285.trans (congrArg some (by kernel_rfl))
 f322:=Tryz.func286.trans (congrArg some (by kernel_rfl))
 f337:=Tryz.func270.trans (congrArg some (by kernel_rfl))
 f338:=Tryz.func271.trans (congrArg some (by kernel_rfl))
 t0:=Tryz.underlying0
 a0:=Tryz.isAgg0
 z0:=Tryz.sizeOf0
 v0:=Tryz.zeroValue0
 t2:=Tryz.underlying2
 a2:=Tryz.isAgg2
 z2:=Tryz.sizeOf2
 v2:=Tryz.zeroValue2
 t3:=Tryz.underlying3
 a3:=Tryz.isAgg3
 z3:=Tryz.sizeOf3
 v3:=Tryz.zeroValue3
 t4:=Tryz.underlying4
 a4:=Tryz.isAgg4
 z4:=Tryz.sizeOf4
 v4:=Tryz.zeroValue4
 t5:=Tryz.underlying5
 a5:=Tryz.isAgg5
 z5:=Tryz.sizeOf5
 v5:=Tryz.zeroValue5
 t9:=Tryz.underlying9
 a9:=Tryz.isAgg9
 z9:=Tryz.sizeOf9
 v9:=Tryz.zeroValue9
 t20:=Tryz.underlying20
 a20:=Tryz.isAgg20
 z20:=Tryz.sizeOf20
 v20:=Tryz.zeroValue20
 t21:=Tryz.underlying21
 a21:=Tryz.isAgg21
 z21:=Tryz.sizeOf21
 v21:=Tryz.zeroValue21
 t37:=Tryz.underlying134
 a37:=Tryz.isAgg134
 z37:=Tryz.sizeOf134
 v37:=Tryz.zeroValue134
 t46:=Tryz.underlying70
 a46:=Tryz.isAgg70
 z46:=Tryz.sizeOf70
 v46:=Tryz.zeroValue70
 t51:=Tryz.underlying300
 a51:=Tryz.isAgg300
 z51:=Tryz.sizeOf300
 v51:=Tryz.zeroValue300
 t53:=Tryz.underlying164
 a53:=Tryz.isAgg164
 z53:=Tryz.sizeOf164
 v53:=Tryz.zeroValue164
 t75:=Tryz.underlying29
 a75:=Tryz.isAgg29
 z75:=Tryz.sizeOf29
 v75:=Tryz.zeroValue29
 t85:=Tryz.underlying284
 a85:=Tryz.isAgg284
 z85:=Tryz.sizeOf284
 v85:=Tryz.zeroValue284
 t127:=Tryz.underlying216
 a127:=Tryz.isAgg216
 z127:=Tryz.sizeOf216
 v127:=Tryz.zeroValue216
 t143:=Tryz.underlying394
 a143:=Tryz.isAgg394
 z143:=Tryz.sizeOf394
 v143:=Tryz.zeroValue394
 t145:=Tryz.underlying396
 a145:=Tryz.isAgg396
 z145:=Tryz.sizeOf396
 v145:=Tryz.zeroValue396
 t167:=Tryz.underlying366
 a167:=Tryz.isAgg366
 z167:=Tryz.sizeOf366
 v167:=Tryz.zeroValue366
 t168:=Tryz.underlying367
 a168:=Tryz.isAgg367
 z168:=Tryz.sizeOf367
 v168:=Tryz.zeroValue367
 t171:=Tryz.underlying276
 a171:=Tryz.isAgg276
 z171:=Tryz.sizeOf276
 v171:=Tryz.zeroValue276
 t173:=Tryz.underlying279
 a173:=Tryz.isAgg279
 z173:=Tryz.sizeOf279
 v173:=Tryz.zeroValue279
 t175:=Tryz.underlying377
 a175:=Tryz.isAgg377
 z175:=Tryz.sizeOf377
 v175:=Tryz.zeroValue377
 t210:=Tryz.underlying385
 a210:=Tryz.isAgg385
 z210:=Tryz.sizeOf385
 v210:=Tryz.zeroValue385
 t212:=Tryz.underlying332
 a212:=Tryz.isAgg332
 z212:=Tryz.sizeOf332
 v212:=Tryz.zeroValue332
 t213:=Tryz.underlying333
 a213:=Tryz.isAgg333
 z213:=Tryz.sizeOf333
 t232:=Tryz.underlying391
 a232:=Tryz.isAgg391
 z232:=Tryz.sizeOf391
 v232:=Tryz.zeroValue391
 t233:=Tryz.underlying392
 a233:=Tryz.isAgg392
 z233:=Tryz.sizeOf392
 v233:=Tryz.zeroValue392
 g15:=by kernel_rfl
 g16:=by kernel_rfl
 g17:=by kernel_rfl
 g18:=by kernel_rfl
 g19:=by kernel_rfl
 t80:=Tryz.underlying142
 a80:=Tryz.isAgg142
 z80:=Tryz.sizeOf142
 v80:=Tryz.zeroValue142
 i0:=by kernel_rfl
 i2:=by kernel_rfl
 i3:=by kernel_rfl
 i4:=by kernel_rfl
 i5:=by kernel_rfl
 i9:=by kernel_rfl
 i20:=by kernel_rfl
 i21:=by kernel_rfl
 i37:=by kernel_rfl
 i46:=by kernel_rfl
 i51:=by kernel_rfl
 i53:=by kernel_rfl
 i75:=by kernel_rfl
 i80:=by kernel_rfl
 i85:=by kernel_rfl
 i127:=by kernel_rfl
 i143:=by kernel_rfl
 i145:=by kernel_rfl
 i167:=by kernel_rfl
 i168:=by kernel_rfl
 i171:=by kernel_rfl
 i173:=by kernel_rfl
 i175:=by kernel_rfl
 i210:=by kernel_rfl
 i212:=by kernel_rfl
 i232:=by kernel_rfl
 i233:=by kernel_rfl
 m15:=by kernel_rfl
 m16:=by kernel_rfl
 m17:=by kernel_rfl
 m18:=by kernel_rfl
 m19:=by kernel_rfl
 c0:=by kernel_rfl
 c2:=by kernel_rfl
 c3:=by kernel_rfl
 c4:=by kernel_rfl
 c5:=by kernel_rfl
 c9:=by kernel_rfl
 c20:=by kernel_rfl
 c21:=by kernel_rfl
 c37:=by kernel_rfl
 c46:=by kernel_rfl
 c51:=by kernel_rfl
 c53:=by kernel_rfl
 c75:=by kernel_rfl
 c80:=by kernel_rfl
 c85:=by kernel_rfl
 c127:=by kernel_rfl
 c143:=by kernel_rfl
 c145:=by kernel_rfl
 c167:=by kernel_rfl
 c168:=by kernel_rfl
 c171:=by kernel_rfl
 c173:=by kernel_rfl
 c175:=by kernel_rfl
 c210:=by kernel_rfl
 c212:=by kernel_rfl
 c213:=by kernel_rfl
 c232:=by kernel_rfl
 c233:=by kernel_rfl}
def nu_lays145_ren:Go.Shelf.Ren:=⟨fun | 145=>40 | 220=>89 | 219=>134 | 217=>186 | 225=>187 | 224=>188 | 267=>189 | 266=>238 | 314=>239 | n=>n,fun | 9=>9 | 4=>4 | 59=>96 | 3=>3 | 5=>5 | 46=>70 | 146=>337 | 51=>300 | n=>n,fun | 1=>1 | n=>n⟩
theorem nu_lays145:Go.Proofs.Lays.n145 Tryz.prog nu_lays145_ren:= {
 mixed:=by kernel_rfl
 f145:=Tryz.func40.trans (congrArg some (by kernel_rfl))
 f217:=Tryz.func186.trans (congrArg some (by kernel_rfl))
 f219:=Tryz.func134.trans (congrArg some (by kernel_rfl))
 f220:=Tryz.func89.trans (congrArg some (by kernel_rfl))
 f224:=Tryz.func188.trans (congrArg some (by kernel_rfl))
 f225:=Tryz.func187.trans (congrArg some (by kernel_rfl))
 f266:=Tryz.func238.trans (congrArg some (by kernel_rfl))
 f267:=Tryz.func189.trans (congrArg some (by kernel_rfl))
 f314:=Tryz.func239.trans (congrArg some (by kernel_rfl))
 t3:=Tryz.underlying3
 a3:=Tryz.isAgg3
 z3:=Tryz.sizeOf3
 v3:=Tryz.zeroValue3
 t4:=Tryz.underlying4
 a4:=Tryz.isAgg4
 z4:=Tryz.sizeOf4
 v4:=Tryz.zeroValue4
 t5:=Tryz.underlying5
 a5:=Tryz.isAgg5
 z5:=Tryz.sizeOf5
 v5:=Tryz.zeroValue5
 t9:=Tryz.underlying9
 a9:=Tryz.isAgg9
 z9:=Tryz.sizeOf9
 v9:=Tryz.zeroValue9
 t46:=Tryz.underlying70
 a46:=Tryz.isAgg70
 z46:=Tryz.sizeOf70
 v46:=Tryz.zeroValue70
 t51:=Tryz.underlying300
 a51:=Tryz.isAgg300
 z51:=Tryz.sizeOf300
 v51:=Tryz.zeroValue300
 t59:=Tryz.underlying96
 a59:=Tryz.isAgg96
 z59:=Tryz.sizeOf96
 v59:=Tryz.zeroValue96
 t146:=Tryz.underlying337
 a146:=Tryz.isAgg337
 z146:=Tryz.sizeOf337
 v146:=Tryz.zeroValue337
 g1:=by kernel_rfl}
def nu_lays146_ren:Go.Shelf.Ren:=⟨fun | 146=>143 | 221=>215 | 268=>252 | 138=>177 | 143=>72 | 195=>233 | 197=>178 | 218=>234 | 219=>134 | 260=>235 | 217=>186 | 225=>187 | 224=>188 | 267=>189 | 266=>238 | 314=>239 | n=>n,fun | 9=>9 | 31=>72 | 3=>3 | 4=>4 | 0=>0 | 105=>281 | 21=>21 | 5=>5 | 46=>70 | 119=>373 | 139=>376 | 138=>375 | 146=>337 | 51=>300 | n=>n,fun | 1=>1 | 3=>4 | 4=>5 | n=>n⟩
theorem nu_lays146:Go.Proofs.Lays.n146 Tryz.prog nu_lays146_ren:= {
 mixed:=by kernel_rfl
 f138:=Tryz.func177.trans (congrArg some (by kernel_rfl))
 f143:=Tryz.func72.trans (congrArg some (by kernel_rfl))
 f146:=Tryz.func143.trans (congrArg some (by kernel_rfl))
 f195:=Tryz.func233.trans (congrArg some (by kernel_rfl))
 f197:=Tryz.func178.trans (congrArg some (by kernel_rfl))
 f217:=Tryz.func186.trans (congrArg some (by kernel_rfl))
 f218:=Tryz.func234.trans (congrArg some (by kernel_rfl))
 f219:=Tryz.func134.trans (congrArg some (by kernel_rfl))
 f221:=Tryz.func215.trans (congrArg some (by kernel_rfl))
 f224:=Tryz.func188.trans (congrArg some (by kernel_rfl))
 f225:=Tryz.func187.trans (congrArg some (by kernel_rfl))
 f260:=Tryz.func235.trans (congrArg some (by kernel_rfl))
 f266:=Tryz.func238.trans (congrArg some (by kernel_rfl))
 f267:=Tryz.func189.trans (congrArg some (by kernel_rfl))
 f268:=Tryz.func252.trans (congrArg some (by kernel_rfl))
 f314:=Tryz.func239.trans (congrArg some (by kernel_rfl))
 t0:=Tryz.underlying0
 a0:=Tryz.isAgg0
 z0:=Tryz.sizeOf0
 v0:=Tryz.zeroValue0
 t3:=Tryz.underlying3
 a3:=Tryz.isAgg3
 z3:=Tryz.sizeOf3
 v3:=Tryz.zeroValue3
 t4:=Tryz.underlying4
 a4:=Tryz.isAgg4
 z4:=Tryz.sizeOf4
 v4:=Tryz.zeroValue4
 t5:=Tryz.underlying5
 a5:=Tryz.isAgg5
 z5:=Tryz.sizeOf5
 v5:=Tryz.zeroValue5
 t9:=Tryz.underlying9
 a9:=Tryz.isAgg9
 z9:=Tryz.sizeOf9
 v9:=Tryz.zeroValue9
 t21:=Tryz.underlying21
 a21:=Tryz.isAgg21
 z21:=Tryz.sizeOf21
 v21:=Tryz.zeroValue21
 t31:=Tryz.underlying72
 a31:=Tryz.isAgg72
 z31:=Tryz.sizeOf72
 v31:=Tryz.zeroValue72
 t46:=Tryz.underlying70
 a46:=Tryz.isAgg70
 z46:=Tryz.sizeOf70
 v46:=Tryz.zeroValue70
 t51:=Tryz.underlying300
 a51:=Tryz.isAgg300
 z51:=Tryz.sizeOf300
 v51:=Tryz.zeroValue300
 t105:=Tryz.underlying281
 a105:=Tryz.isAgg281
 z105:=Tryz.sizeOf281
 v105:=Tryz.zeroValue281
 t119:=Tryz.underlying373
 a119:=Tryz.isAgg373
 z119:=Tryz.sizeOf373
 t138:=Tryz.underlying375
 a138:=Tryz.isAgg375
 z138:=Tryz.sizeOf375
 v138:=Tryz.zeroValue375
 t139:=Tryz.underlying376
 a139:=Tryz.isAgg376
 z139:=Tryz.sizeOf376
 v139:=Tryz.zeroValue376
 t146:=Tryz.underlying337
 a146:=Tryz.isAgg337
 z146:=Tryz.sizeOf337
 v146:=Tryz.zeroValue337
 g1:=by kernel_rfl
 g3:=by kernel_rfl
 g4:=by kernel_rfl}
def nu_laysM173_ren:Go.Shelf.Ren:=⟨fun | 173=>182 | 246=>124 | 283=>173 | 284=>174 | 285=>175 | 286=>176 | 129=>199 | 317=>229 | 318=>230 | 319=>231 | 320=>232 | 337=>270 | 338=>271 | n=>n,fun | 2=>2 | 3=>3 | 9=>9 | 4=>4 | 171=>276 | 0=>0 | 53=>164 | 37=>134 | 5=>5 | 173=>279 | 212=>332 | 51=>300 | 20=>20 | 213=>333 | 46=>70 | 232=>391 | 233=>392 | n=>n,fun | 17=>3 | 18=>8 | 19=>9 | n=>n⟩
theorem nu_laysM173:Go.Proofs.LaysM.n173 Tryz.prog nu_laysM173_ren:= {
 mixed:=by kernel_rfl
 f129:=Tryz.func199.trans (congrArg some (by kernel_rfl))
 f173:=Tryz.func182.trans (congrArg some (by kernel_rfl))
 f246:=Tryz.func124.trans (congrArg some (by kernel_rfl))
 f283:=Tryz.func173.trans (congrArg some (by kernel_rfl))
 f284:=Tryz.func174.trans (congrArg some (by kernel_rfl))
 f285:=Tryz.func175.trans (congrArg some (by kernel_rfl))
 f286:=Tryz.func176.trans (congrArg some (by kernel_rfl))
 f317:=Tryz.func229.trans (congrArg some (by kernel_rfl))
 f318:=Tryz.func230.trans (congrArg some (by kernel_rfl))
 f319:=Tryz.func231.trans (congrArg some (by kernel_rfl))
 f320:=Tryz.func232.trans (congrArg some (by kernel_rfl))
 f337:=Tryz.func270.trans (congrArg some (by kernel_rfl))
 f338:=Tryz.func271.trans (congrArg some (by kernel_rfl))
 t0:=Tryz.underlying0
 a0:=Tryz.isAgg0
 z0:=Tryz.sizeOf0
 v0:=Tryz.zeroValue0
 t2:=Tryz.underlying2
 a2:=Tryz.isAgg2
 z2:=Tryz.sizeOf2
 v2:=Tryz.zeroValue2
 t3:=Tryz.underlying3
 a3:=Tryz.isAgg3
 z3:=Tryz.sizeOf3
 v3:=Tryz.zeroValue3
 t4:=Tryz.underlying4
 a4:=Tryz.isAgg4
 z4:=Tryz.sizeOf4
 v4:=Tryz.zeroValue4
 t5:=Tryz.underlying5
 a5:=Tryz.isAgg5
 z5:=Tryz.sizeOf5
 v5:=Tryz.zeroValue5
 t9:=Tryz.underlying9
 a9:=Tryz.isAgg9
 z9:=Tryz.sizeOf9
 v9:=Tryz.zeroValue9
 t20:=Tryz.underlying20
 a20:=Tryz.isAgg20
 z20:=Tryz.sizeOf20
 v20:=Tryz.zeroValue20
 t37:=Tryz.underlying134
 a37:=Tryz.isAgg134
 z37:=Tryz.sizeOf134
 v37:=Tryz.zeroValue134
 t46:=Tryz.underlying70
 a46:=Tryz.isAgg70
 z46:=Tryz.sizeOf70
 v46:=Tryz.zeroValue70
 t51:=Tryz.underlying300
 a51:=Tryz.isAgg300
 z51:=Tryz.sizeOf300
 v51:=Tryz.zeroValue300
 t53:=Tryz.underlying164
 a53:=Tryz.isAgg164
 z53:=Tryz.sizeOf164
 v53:=Tryz.zeroValue164
 t171:=Tryz.underlying276
 a171:=Tryz.isAgg276
 z171:=Tryz.sizeOf276
 v171:=Tryz.zeroValue276
 t173:=Tryz.underlying279
 a173:=Tryz.isAgg279
 z173:=Tryz.sizeOf279
 v173:=Tryz.zeroValue279
 t212:=Tryz.underlying332
 a212:=Tryz.isAgg332
 z212:=Tryz.sizeOf332
 v212:=Tryz.zeroValue332
 t213:=Tryz.underlying333
 a213:=Tryz.isAgg333
 z213:=Tryz.sizeOf333
 t232:=Tryz.underlying391
 a232:=Tryz.isAgg391
 z232:=Tryz.sizeOf391
 v232:=Tryz.zeroValue391
 t233:=Tryz.underlying392
 a233:=Tryz.isAgg392
 z233:=Tryz.sizeOf392
 v233:=Tryz.zeroValue392
 g17:=by kernel_rfl
 g18:=by kernel_rfl
 g19:=by kernel_rfl
 i0:=by kernel_rfl
 i2:=by kernel_rfl
 i3:=by kernel_rfl
 i4:=by kernel_rfl
 i5:=by kernel_rfl
 i9:=by kernel_rfl
 i20:=by kernel_rfl
 i37:=by kernel_rfl
 i46:=by kernel_rfl
 i51:=by kernel_rfl
 i53:=by kernel_rfl
 i171:=by kernel_rfl
 i173:=by kernel_rfl
 i212:=by kernel_rfl
 i232:=by kernel_rfl
 i233:=by kernel_rfl
 m17:=by kernel_rfl
 m18:=by kernel_rfl
 m19:=by kernel_rfl}
open Go.RowKit Go.Shelf
def numD (t:BtP):Option Int:=match Lib.atoiAll t with
 | .ok n=>if Lib.itoa n=t then some n else none
 | _=>none
def PowT (w : World) : Prop := Lib.TabIs Tryz.prog w "internal/strconv.uint64pow10" .u64 Lib.pow10Tab
noncomputable def gPow : Nat := (Tryz.prog.globalNamed "internal/strconv.uint64pow10").getD 0
theorem gPow_eq : Tryz.prog.globalNamed "internal/strconv.uint64pow10" = some gPow := by kernel_rfl
theorem PowT.lt {w:World} (h:PowT w):gPow < w.heap.size:=(var_blk (w':=w) gPow_eq h).1
theorem PowT.fr {w w':World} {X:List Nat} (h:PowT w) (hg:Fr X w w') (hX:gPow∉X):PowT w':=(var_blk gPow_eq h).2 (hg.block _ h.lt hX)
def numDV (t:Bt):Value:=match numD t with
 | some n=>.tuple #[.int .i64 n,.bool true]
 | none=>.tuple #[.int .i64 0,.bool false]
theorem grow_below (w:World) (k:Nat) (os:Array Obj):Below w.heap.size w (Go.Sort.grow (w.drewN k) os):=by
 refine⟨rfl,rfl,rfl,by simp[Go.Sort.grow,World.drewN],fun k hk=>?_⟩;simp only[Go.Sort.grow,World.drewN];rw[Array.getElem?_append_left hk]
theorem pint_call (t:Bt) (w:World) (ht:t.length≤3000) (hv:ErrV w):Calls Tryz.prog 181 #[.string (ba t),.int .i64 10,.int .i64 64] w fun e w'=>Fr [] w w'∧
  ((∃v,Lib.atoiAll t=.ok v∧e=.returned (.tuple #[.int .i64 v,.nilIface]))∨((∀v,Lib.atoiAll t≠.ok v)∧∃(n:Int) (T:TypeId) (x:Value),e=.returned (.tuple #[.int .i64 n,.iface T x]))):=by
 obtain⟨⟨tp,p,h1⟩,⟨tq,q,h2⟩⟩:=hv;cases h:Lib.atoiAll t with
 | ok v=>
  have hB:Lib.parseIntB 64 (ba t).data.toList=.ok v:=by rw[ba_data,Lib.parseIntB_64];exact h
  have:=Any.strconv_ParseInt_10_at64_ok nu_laysC174 (ba t) (by rw[ba_size];omega) v hB w;refine this.mono ?_;rintro e w' ⟨rfl,rfl | ⟨n,rfl⟩⟩
  ·exact⟨Fr.refl _ _,.inl ⟨v,rfl,rfl⟩⟩
  ·exact⟨fr_below (Lib.bytesWorld_below _ _ _) _,.inl ⟨v,rfl,rfl⟩⟩
 | «syntax» =>
  have:=Any.strconv_ParseInt_10_at64_syntax_var nu_laysC174 (ba t) (by rw[ba_size];omega) (by rw[ba_data,Lib.parseIntB_64];exact h) tq q w h2;refine this.mono ?_;rintro e w' ⟨N,rfl,_,_,hb⟩;exact⟨fr_below hb _,.inr ⟨fun v h=>by(cases h),_,_,_,rfl⟩⟩
 | range=>
  have:=Any.strconv_ParseInt_10_at64_range_var nu_laysC174 (ba t) (by rw[ba_size];omega) (by rw[ba_data,Lib.parseIntB_64];exact h) tp p w h1;refine this.mono ?_;rintro e w' ⟨N,rfl,_,_,hb⟩;exact⟨fr_below hb _,.inr ⟨fun v h=>by(cases h),_,_,_,rfl⟩⟩
theorem fint_call (v:Int) (w:World) (h0: -9223372036854775808≤v) (h1:v≤9223372036854775807) (hp:PowT w):Calls Tryz.prog 182 #[.int .i64 v,.int .i64 10] w fun e w'=>e=.returned (.string (ba (Lib.itoa v)))∧Fr [] w w':=by
 refine(Any.strconv_FormatInt_10 nu_laysM173 v h0 h1 w hp).mono ?_;rintro e w' ⟨rfl,k,os,rfl⟩;exact⟨rfl,fr_below (grow_below _ _ _) _⟩
set_option maxHeartbeats 4000000 in
theorem number_dany (t:Bt) (w:World) (ht:t.length≤3000) (hv:ErrV w) (hp:PowT w):Calls Tryz.prog 129 #[.string (ba t)] w fun e w'=>e=.returned (numDV t)∧Fr [] w w':=by
 have HI:=hideIt (pint_call t w ht hv);have HP:=hideIt hp;have HF:=hideIt fint_call;clear hv hp;go_enter Tryz.func129,Tryz.ntmps129
 go_wp2_with fail
 refine HI.out.mono ?_;rintro x w1 ⟨hf1,⟨v,h,rfl⟩ | ⟨h,n,T,x,rfl⟩⟩
 ·have hb:=Lib.atoiAll_bounds h;have HF1:=hideIt hf1;have HP1:=hideIt (HP.out.fr hf1 (by simp));clear hf1;by_cases hi:Lib.itoa v=t
  ·have HN:Hid (numDV t=.tuple #[.int .i64 v,.bool true]):=hideIt (by unfold numDV numD;rw[h];simp only;rw[if_pos hi]);have he:((ba (Lib.itoa v)).toList==(ba t).toList)=true:=by rw[hi];exact beq_self_eq_true _
   clear h hi;go_wp2_with fail
   refine(HF.out v w1 hb.1 hb.2 HP1.out).mono ?_;rintro x w2 ⟨rfl,hf2⟩;have HF2:=hideIt (HF1.out.trans hf2);clear hf2;go_wp2;go_ret2;exact⟨by rw[HN.out];rfl,HF2.out⟩
  ·have HN:Hid (numDV t=.tuple #[.int .i64 0,.bool false]):=hideIt (by unfold numDV numD;rw[h];simp only;rw[if_neg hi]);have he:=ba_ne hi;clear h hi;go_wp2_with fail
   refine(HF.out v w1 hb.1 hb.2 HP1.out).mono ?_;rintro x w2 ⟨rfl,hf2⟩;have HF2:=hideIt (HF1.out.trans hf2);clear hf2;go_wp2;go_ret2;exact⟨by rw[HN.out];rfl,HF2.out⟩
 ·have HN:Hid (numDV t=.tuple #[.int .i64 0,.bool false]):=hideIt (by
   unfold numDV numD;cases k:Lib.atoiAll t with
   | ok v=>exact absurd k (h v)
   | «syntax» =>rfl
   | range=>rfl)
  have HF1:=hideIt hf1;clear hf1 h;go_wp2;go_ret2;exact⟨by rw[HN.out];rfl,HF1.out⟩
end Go.Proofs.YtjpklmighoondaaGreatDoor.Gn
namespace Go.Proofs.YtjpklmighoondaaGreatDoor
open Go.RowKit
def oneB (o:Int):Bool:=o==1||o==2||o==6
def knowsB (o k:Int):Bool:=
 (o==1&&(k==1||k==2||k==3))||(o==2&&(k==4||k==5))||(o==3&&(k==6||k==7||k==8))||
 (o==4&&(k==9||k==10))||(o==5&&(k==9||k==10))||(o==6&&(k==11||k==12))
def startL (o:Int):List Int:=if oneB o then [0] else []
def placeOf (st:List Int) (a:Int):Nat:=st.countP (· < a)
def regM (x k a b:Int):Int×Int:=
 if k=2 then (a,0) else if k=3 then (if x=a then (b,1) else (x,0)) else (x,x)
def cntM (x k a:Int):Int×Int:=
 if k=4 then (wrap64 (x+a),wrap64 (x+a)) else (x,x)
def setM (st:List Int) (k a:Int):List Int×Int:=
 if k=6∧st.contains a=false then (st.take (placeOf st a)++a::st.drop (placeOf st a),1)
 else if k=7∧st.contains a=true then (st.take (placeOf st a)++st.drop (placeOf st a+1),1)
 else if k=8∧st.contains a=true then (st,1) else (st,0)
def queM (st:List Int) (k a:Int):List Int×Int:=
 if k=9 then (st++ [a],0) else if st= [] then (st,-1) else (st.drop 1,st.headD 0)
def staM (st:List Int) (k a:Int):List Int×Int:=
 if k=9 then (st++ [a],0) else if st= [] then (st,-1) else (st.take (st.length - 1),st.getD (st.length - 1) 0)
def mutM (x k:Int):Option Int:=
 if k=12 then (if x=1 then some 0 else none) else (if x=0 then some 1 else none)
def stepM (o:Int) (st:List Int) (k a b:Int):Option (List Int×Int):=
 if knowsB o k=false∨(oneB o=true∧st.length≠1) then none
 else if o=1 then some ([(regM (st.headD 0) k a b).1],(regM (st.headD 0) k a b).2)
 else if o=2 then some ([(cntM (st.headD 0) k a).1],(cntM (st.headD 0) k a).2)
 else if o=3 then some (setM st k a)
 else if o=4 then some (queM st k a)
 else if o=5 then some (staM st k a)
 else (mutM (st.headD 0) k).map fun y=>([y],0)
end Go.Proofs.YtjpklmighoondaaGreatDoor
