/-
  The reader's signs.
  gen.Parse.
  A plan that is tried, walked: Run, what it begins with.
-/
import Derived.Test.YtjpklmighoondaaGreatDoorRdF
import Derived.Test.YtjpklmighoondaaGreatDoorIrWZ
import Derived.Maps.AppendAt
import Derived.Test.YtjpklmighoondaaGreatDoorFaRZ
namespace Go.Proofs.YtjpklmighoondaaGreatDoor.Gn
open Go.RowKit
set_option maxHeartbeats 4000000 in
theorem signSize_any (t:Bt) (w:World) (ht:t.length≤2500):
  Calls Tryz.prog 92 #[.string (ba t)] w fun e w'=>e=.returned (.int .i64 ((sgLen t:Nat):Int))∧Fr [] w w':=by
 have HI:=hideIt (indexAny_call t w (by omega));have hs:sgLen t=if Lib.indexAny t seps= -1 then t.length else if Lib.indexAny t seps=0 then 1 else (Lib.indexAny t seps).toNat:=rfl
 have hge: -1≤Lib.indexAny t seps:=Lib.indexAny_ge seps t;have hsz:=ba_size t;generalize Lib.indexAny t seps=q at*
 rw[hs];clear hs;by_cases h1:q= -1
 ·subst h1;go_enter Tryz.func92,Tryz.ntmps92
  go_wp2_with fail
  refine HI.out.mono ?_;rintro y w1 ⟨rfl,hf⟩;go_wp2;go_ret;exact⟨by rfl,hf⟩
 ·by_cases h2:q=0
  ·subst h2;go_enter Tryz.func92,Tryz.ntmps92
   go_wp2_with fail
   refine HI.out.mono ?_;rintro y w1 ⟨rfl,hf⟩;go_wp2;go_ret;exact⟨by rfl,hf⟩
  ·go_enter Tryz.func92,Tryz.ntmps92
   go_wp2_with fail
   refine HI.out.mono ?_;rintro y w1 ⟨rfl,hf⟩;go_wp2;go_ret;exact⟨by simp;omega,hf⟩
theorem indexAny_lt (chars:Bt):∀l:Bt,Lib.indexAny l chars < l.length
 | []=>by simp[Lib.indexAny]
 | b::l=>by
  have ih:=indexAny_lt chars l;unfold Lib.indexAny;simp only[List.length_cons]
  split
  ·omega
  ·split<;>omega
theorem sgLen_pos {l:Bt} (h:l≠ []):1≤sgLen l∧sgLen l≤l.length:=by
 have h1:=Lib.indexAny_ge sepsP l;have h2:=indexAny_lt sepsP l;have h3:0 < l.length:=List.length_pos_iff.2 h;unfold sgLen
 split
 ·omega
 ·split<;>omega
theorem ba_part (t:Bt) (a b:Nat):(ba t).extract a b=ba ((t.drop a).take (b - a)):=by
 apply ByteArray.ext
 simp only[ba,ByteArray.data_extract]
 apply Array.ext'
 simp[List.extract_eq_take_drop]
def sgC (s:Bt×Nat):List Value:= [.string (ba s.1),.int .i64 (s.2:Nat)]
def sgCs (L:List (Bt×Nat)):List Value:=L.flatMap sgC
theorem sgCs_snoc (L:List (Bt×Nat)) (c:Bt×Nat):sgCs (L++ [c])=sgCs L++sgC c:=by simp[sgCs]
theorem infoSg:(Tryz.prog.info? 124).map (fun i=>(i.zero,i.size,i.bytes))=some (some (.agg #[.string ⟨#[]⟩,.int .i64 0]),2,24):=by kernel_rfl
theorem sgs_fuel:∀(n m:Nat) (l:Bt),l.length≤n→l.length≤m→sgs n l=sgs m l
 | 0,0,_,_,_=>rfl
 | 0,m+1,[],_,_=>rfl
 | n+1,0,[],_,_=>rfl
 | 0,_+1,_::_,h,_=>by simp at h
 | _+1,0,_::_,_,h=>by simp at h
 | n+1,m+1,[],_,_=>rfl
 | n+1,m+1,c::l,h,h'=>by
  have hp:=sgLen_pos (l:=c::l) (by simp);simp only[List.length_cons] at h h' hp;simp only[sgs]
  split
  ·exact sgs_fuel n m l (by omega) (by omega)
  ·rw[sgs_fuel n m _ (by simp;omega) (by simp;omega)]
structure SgTold (t : Bt) (w : World) (e : Ending) (w' : World) (S cap : Nat) (ps : List (Bt × Nat)) : Prop where
 ret:e=.returned (.slice (some ⟨S,0,none⟩) ps.length cap)
 row:w'.ownsRow w.heap.size 124 2 (.slice (some ⟨S,0,none⟩) ps.length cap) ps.length (sgCs ps)
 txt:ps.map (·.1)=sgs t.length t++ [[]]
 below:Below w.heap.size w w'
theorem some_of_row {w:World} {base z:Nat} {ty:TypeId} {v:Value} {n:Nat} {us:List Value} (h:w.ownsRow base ty z v n us):∃a c,v=.slice a n c:=by
 rcases h.2 with ⟨e,e2⟩ | ⟨g,cap,cur,e,_⟩
 ·exact⟨none,0,by rw[e,e2]⟩
 ·exact⟨_,_,e⟩
structure SgI (t : Bt) (w wx : World) (sl : Value) (ps : List (Bt × Nat)) (p : Nat) : Prop where
 row:wx.ownsRow w.heap.size 124 2 sl ps.length (sgCs ps)
 txt:sgs t.length t=ps.map (·.1)++sgs (t.length - p) (t.drop p)
 few:ps.length≤p
 le:p≤t.length
 below:Below w.heap.size w wx
set_option maxHeartbeats 8000000 in
set_option maxRecDepth 100000 in
theorem signsOf_any (t:Bt) (w:World) (ht:t.length≤2000):
  Calls Tryz.prog 43 #[.string (ba t)] w fun e w'=>∃S cap ps,SgTold t w e w' S cap ps:=by
 have hsz:=ba_size t;have hI:SgI t w w (.slice none 0 0) [] 0:=⟨World.ownsRow_nil _ _ _ _,by simp,Nat.le_refl _,Nat.zero_le _,Below.refl _ _⟩;have HI:=hideIt hI;obtain⟨i0,hi,hz0,hz1,hz2⟩:=info_parts' infoSg;clear hI;go_enter Tryz.func43,Tryz.ntmps43
 go_wp2
 go_loopg [3,4] t.length (fun k sl pl wx=>∃ps p,k+p=t.length∧pl=.int .i64 (p:Nat)∧SgI t w wx sl ps p)
 case atStart=>exact⟨[],0,by simp,rfl,HI.out⟩
 case round=>
  obtain⟨ps,p,hkp,rfl,hS⟩:=hrel;clear HI;have HS:=hideIt hS;obtain⟨a8,c8,rfl⟩:=some_of_row hS.row;have hfew:=hS.few;have hwsz:=hS.below.size;cases gk with
  | zero=>
   have hge:¬(p:Int) < (t.length:Int):=by omega
   clear hS;go_wp2_with (at_builtin;refine wpList_append_own_at _ rfl _ _ 117 rfl w.heap.size 124 i0 _ 2 24 Tryz.underlying117 hi hz0 hz1 hz2 rfl (by decide) _ _ _ rfl (HS.out.row.alloc _) ⟨wr.heap.size,0,none⟩ 1 1 [.string (ba []),.int .i64 (t.length:Nat)] rfl rfl ?c1 ?c2 ?c3 ?c4 ?c5 ?_)
   case c1=>
    intro j u hj
    match j,hj with
    | 0,hj=>simp at hj;subst hj;simp;rfl
    | 1,hj=>simp at hj;subst hj;simp
    | n+2,hj=>simp at hj
   case c2=>exact⟨rfl,rfl⟩
   case c3=>unfold maxLen;omega
   case c4=>omega
   case c5=>omega
   intro v5 W5 ho5 hg5 hn5 hb5;obtain⟨S,c5,rfl⟩:∃S c,v5=.slice (some ⟨S,0,none⟩) (ps.length+1) c:=by
    rcases ho5.2 with ⟨_,e⟩ | ⟨g',c',cur,e,_⟩
    ·omega
    ·exact⟨g',c',e⟩
   have hEnd:SgTold t w (.returned (.slice (some ⟨S,0,none⟩) (ps++ [([],t.length)]).length c5)) W5 S c5 (ps++ [([],t.length)]):=by
    refine⟨rfl,?_,?_,?_⟩
    ·rw[sgCs_snoc,List.length_append];exact ho5
    ·have hx:=HS.out.txt;have e0:t.length - p=0:=by omega
     rw[e0] at hx;rw[hx];simp[sgs]
    ·refine(HS.out.below.alloc (by omega) _).grown hg5 (by simp;omega) (fun g hg=>?_);exact(World.ownsRow.lt HS.out.row g hg).1
   have HEnd:=hideIt hEnd;clear ho5 hg5 hn5 hb5 hEnd;go_wp2;go_ret;exact⟨S,c5,_,by simpa using HEnd.out⟩
  | succ k=>
   have hlt:(p:Int) < (t.length:Int):=by omega
   have hpl:p < t.length:=by omega
   have hps:p < (ba t).size:=by omega
   obtain⟨c,l,hcl⟩:∃c l,t.drop p=c::l:=by
    cases h:t.drop p with
    | nil=>have:=congrArg List.length h;simp at this;omega
    | cons c l=>exact⟨c,l,rfl⟩
   have hlen:=congrArg List.length hcl;simp only[List.length_drop,List.length_cons] at hlen;have htx:=hS.txt;have hkl:t.length - p=l.length+1:=by omega
   have hget:((ba t)[p]'hps).toNat=c.toNat:=by
    have h1:t[p]'hpl=c:=by
     have:=List.drop_eq_getElem_cons hpl;rw[hcl] at this;exact(List.cons.inj this).1.symm
    rw[←h1];rfl
   have hl2:t.drop (p+1)=l:=by
    have:=List.drop_eq_getElem_cons hpl;rw[hcl] at this;exact(List.cons.inj this).2.symm
   rw[hkl,hcl] at htx;simp only[sgs] at htx;have HLen:=hideIt hlen;clear hS;by_cases hc:c=32
   ·subst hc;rw[if_pos rfl] at htx;have hq:(((((ba t)[p]'hps).toNat:Nat):Int)==32)=true:=by rw[hget];rfl
    have HNew:Hid (SgI t w wr (.slice a8 ps.length c8) ps (p+1)):=hideIt ⟨HS.out.row,by rw[htx,hl2];congr 1;exact sgs_fuel _ _ _ (by omega) (by omega),by omega,by omega,HS.out.below⟩;clear htx hcl hl2 hget;go_wp2
    go_roundg k
    case measure=>omega
    case rel=>exact⟨ps,p+1,by omega,rfl,HNew.out⟩
   ·rw[if_neg hc] at htx;have hq:(((((ba t)[p]'hps).toNat:Nat):Int)==32)=false:=by
     rw[hget];have:c.toNat≠32:=fun e=>hc (UInt8.toNat_inj.1 e)
     simp;omega
    obtain⟨z,hz⟩:∃z,sgLen (c::l)=z:=⟨_,rfl⟩;have hzp:=sgLen_pos (l:=c::l) (by simp);rw[hz] at htx hzp;simp only[List.length_cons] at hzp;have he1:(ba t).extract p t.length=ba (c::l):=by
     rw[ba_part,hcl,List.take_of_length_le (by simp;omega)]
    have he2:(ba t).extract p (p+z)=ba ((c::l).take z):=by
     rw[ba_part,hcl,show p+z - p=z by omega]
    have HTx:=hideIt htx;have HG:=hideIt (fun W=>signSize_any (c::l) W (by simp;omega));rw[hz] at HG;have HDr:Hid (t.drop (p+z)=(c::l).drop z):=hideIt (by rw[←hcl,List.drop_drop]);have HHo:Hid (sgs l.length ((c::l).drop z)=sgs (t.length - (p+z)) ((c::l).drop z)):=hideIt (sgs_fuel _ _ _ (by simp;omega) (by simp;omega));clear htx hcl hl2 hget hc hz;go_wp2_with fail
    refine(HG.out _).mono ?_;rintro y W1 ⟨rfl,hf1⟩;have hs1:=hf1.size;have hrow1:W1.ownsRow w.heap.size 124 2 (.slice a8 ps.length c8) ps.length (sgCs ps):=ownsRow_blk HS.out.row (fun g hg=>hf1.block g (World.ownsRow.lt HS.out.row g hg).2 (by simp));have HB1:Hid (Below w.heap.size w W1):=hideIt (HS.out.below.trans (⟨hf1.os,hf1.tape,hf1.output,hf1.size,fun k hk=>hf1.block k (by omega) (by simp)⟩));have HRow1:=hideIt hrow1;clear hf1 hrow1;go_wp2_with (at_builtin;refine wpList_append_own_at _ rfl _ _ 117 rfl w.heap.size 124 i0 _ 2 24 Tryz.underlying117 hi hz0 hz1 hz2 rfl (by decide) _ _ _ rfl (HRow1.out.alloc _) ⟨W1.heap.size,0,none⟩ 1 1 [.string (ba ((c::l).take z)),.int .i64 (p:Nat)] rfl rfl ?c1 ?c2 ?c3 ?c4 ?c5 ?_)
    case c1=>
     intro j u hj
     match j,hj with
     | 0,hj=>simp at hj;subst hj;simp[Addr.add]
     | 1,hj=>simp at hj;subst hj;simp[Addr.add]
     | n+2,hj=>simp at hj
    case c2=>intro u hu;simp at hu;rcases hu with h | h<;>(rw[h];rfl)
    case c3=>unfold maxLen;omega
    case c4=>omega
    case c5=>rw[World.size_alloc];omega
    intro v5 W5 ho5 hg5 hn5 hb5;have HB5:Hid (Below w.heap.size w W5):=hideIt ((HB1.out.alloc (by omega) _).grown hg5 (by simp;omega) (fun g hg=>(World.ownsRow.lt HRow1.out g hg).1));have HNew:Hid (SgI t w W5 v5 (ps++ [((c::l).take z,p)]) (p+z)):=hideIt ⟨by rw[sgCs_snoc,List.length_append];exact ho5,by rw[HTx.out,HDr.out,HHo.out];simp,by simp;omega,by omega,HB5.out⟩;clear ho5 hg5 hn5 hb5;go_wp2
    go_roundg (t.length - (p+z))
    case measure=>omega
    case rel=>exact⟨_,p+z,by omega,by simp,HNew.out⟩
open Go.RowKit
theorem sgs_mem:∀(n:Nat) (l t:Bt),t∈sgs n l→t≠ []∧t.length≤l.length
 | 0,_,_,h=>by simp[sgs] at h
 | n+1,[],_,h=>by simp[sgs] at h
 | n+1,c::l,t,h=>by
  have hp:=sgLen_pos (l:=c::l) (by simp);simp only[sgs] at h
  split at h
  ·have:=sgs_mem n l t h;exact⟨this.1,Nat.le_trans this.2 (by simp)⟩
  ·rcases List.mem_cons.1 h with e | e
   ·subst e;refine⟨fun e=>?_,by rw[List.length_take];omega⟩;have:=congrArg List.length e;simp only[List.length_take,List.length_nil,List.length_cons] at this hp;omega
   ·have:=sgs_mem n _ t e;exact⟨this.1,Nat.le_trans this.2 (by simp)⟩
theorem sgs_len:∀(n:Nat) (l:Bt),(sgs n l).length≤l.length
 | 0,_=>by simp[sgs]
 | n+1,[]=>by simp[sgs]
 | n+1,c::l=>by
  have hp:=sgLen_pos (l:=c::l) (by simp);simp only[sgs]
  split
  ·have:=sgs_len n l;simp;omega
  ·have:=sgs_len n ((c::l).drop (sgLen (c::l)));simp only[List.length_drop,List.length_cons] at this hp ⊢;omega
theorem sgEnd_of (l:Bt):SgEnd (sgs l.length l++ [[]]):=⟨fun a ha=>by
 simp only[List.length_append,List.length_cons,List.length_nil] at ha ⊢
 constructor
 ·intro h
  apply Classical.byContradiction
  intro hn;have hl:a < (sgs l.length l).length:=by omega
  rw[List.getD_eq_getElem?_getD,List.getElem?_append_left hl,List.getElem?_eq_getElem hl] at h;exact(sgs_mem _ _ _ (List.getElem_mem hl)).1 h
 ·intro h;have:a=(sgs l.length l).length:=by omega
  rw[List.getD_eq_getElem?_getD,this,List.getElem?_append_right (Nat.le_refl _)];simp⟩
theorem sgCs_at:∀(ps:List (Bt×Nat)) (i:Nat) (h:i < ps.length),(sgCs ps)[i*2]?=some (.string (ba ps[i].1))∧(sgCs ps)[i*2+1]?=some (.int .i64 (ps[i].2:Nat))
 | [],_,h=>absurd h (Nat.not_lt_zero _)
 | p::ps,0,_=>⟨rfl,rfl⟩
 | p::ps,i+1,h=>by
  have ih:=sgCs_at ps i (by simpa using h);have e:sgCs (p::ps)=.string (ba p.1)::.int .i64 (p.2:Nat)::sgCs ps:=rfl;rw[e,show (i+1)*2=i*2+2 by omega,show i*2+2+1=(i*2+1)+2 by omega];exact ih
def PsTold (l:Bt) (w:World) (e:Ending) (w':World):Prop:=
 (∃g v bs,parseF l=some g∧e=.returned (.tuple #[v,.nilIface])∧GAt 20 w' w.heap.size v g bs∧(∀b∈bs,NL w' b)∧Fr [] w w')∨
 (parseF l=none∧∃T x,e=.returned (.tuple #[.nilIface,.iface T x])∧Fr [] w w')
set_option maxHeartbeats 4000000 in
theorem parse_long (l:Bt) (w:World) (hl:2000 < l.length):Calls Tryz.prog 20 #[.string (ba l)] w (PsTold l w):=by
 have hsz:=ba_size l;have hN:parseF l=none:=by unfold parseF;rw[if_pos hl]
 have HN:=hideIt hN;have hl':(2000:Int) < (l.length:Int):=by omega
 clear hN;go_enter Tryz.func20,Tryz.ntmps20
 go_wp2;go_ret2;exact .inr ⟨HN.out,_,_,rfl,Fr.refl _ _⟩
theorem fr_nil_of_new {w w':World} {R:Nat} (h:Fr [R] w w') (hR:w.heap.size≤R):Fr [] w w':=
 ⟨h.os,h.tape,h.output,h.size,fun k hk _=>h.block k hk (by simp;omega),h.tag⟩
theorem Fr.new2 {w w1 w':World} {R:Nat} (h:Fr [] w w1) (k:Fr [R] w1 w') (hR:w.heap.size≤R):Fr [] w w':=
 fr_nil_of_new ((h.more (Y:= [R]) (by simp)).trans k) hR
set_option maxHeartbeats 8000000 in
set_option maxRecDepth 100000 in
theorem parse_any (l:Bt) (w:World) (hv:ErrV w):Calls Tryz.prog 20 #[.string (ba l)] w (PsTold l w):=by
 by_cases hl:2000 < l.length
 ·exact parse_long l w hl
 have hsz:=ba_size l;have hl':¬(2000:Int) < (l.length:Int):=by omega
 have HS:=hideIt (signsOf_any l w (by omega));have HV:=hideIt hv;have HVl:=hideIt hv.lt;clear hv;go_enter Tryz.func20,Tryz.ntmps20
 go_wp2_with fail
 refine HS.out.mono ?_;rintro y w1 ⟨S,cap,ps,hret,hrow,htxt,hbel⟩;subst hret;obtain⟨L,hL⟩:∃L,sgs l.length l++ [[]]=L:=⟨_,rfl⟩;have hpl:ps.length=L.length:=by rw[←hL,←htxt,List.length_map]
 rw[hpl];have hfew:L.length≤2001:=by rw[←hL,List.length_append];have:=sgs_len l.length l;simp;omega
 have hE:SgEnd L:=by rw[←hL];exact sgEnd_of l
 have hP:parseF l=match gF 20 L with
   | none=>none
   | some r=>if r.s.headD []= [] then some r.g else none:=by unfold parseF;rw[if_neg hl,hL];rfl
 have hSlt:S < w1.heap.size:=by
  rcases hrow.2 with ⟨e,_⟩ | ⟨g,c,cur,e,_,e2,_⟩
  ·cases e
  ·injection e with e _ _;injection e with e;injection e with e _;rw[e];exact(Array.getElem?_eq_some_iff.1 e2).1
 have hRd:RdAt (w1.alloc (.cells #[.slice (some ⟨S,0,none⟩) L.length cap,.int .i64 0,.int .i64 0] 120)) w1.heap.size S L 0 0:=by
  have hnew:=heap_new w1 (.cells #[.slice (some ⟨S,0,none⟩) L.length cap,.int .i64 0,.int .i64 0] 120);have hold:(w1.alloc (.cells #[.slice (some ⟨S,0,none⟩) L.length cap,.int .i64 0,.int .i64 0] 120)).heap[S]?=w1.heap[S]?:=Below.heap_alloc _ _ _ hSlt;refine⟨⟨cap,by rw[cell_of_row _ _ _ _ _ _ hnew];rfl,?_⟩,by rw[cell_of_row _ _ _ _ _ _ hnew];rfl,by rw[cell_of_row _ _ _ _ _ _ hnew];rfl,frozen_of_row _ _ _ _ _ hnew,frozen_of_row _ _ _ _ _ hnew,fun i hi=>?_,by rw[←hL,List.length_append];simp,hfew,by omega⟩
  ·rcases hrow.2 with ⟨e,_⟩ | ⟨g,c,cur,e,_,_,e3,_⟩
   ·cases e
   ·injection e with _ _ e;rw[e,←hpl];exact e3
  ·have hi2:i < ps.length:=by omega
   obtain⟨k1,k2⟩:=sgCs_at ps i hi2;have hx:ps[i].1=L[i]:=by
    have h1:(ps.map (·.1))[i]?=L[i]?:=by rw[htxt,hL]
    rw[List.getElem?_map,List.getElem?_eq_getElem hi2,List.getElem?_eq_getElem hi] at h1;exact Option.some.inj h1
   exact⟨((World.cell?_of_block (a:=⟨S,i*2,none⟩) hold).trans (hrow.cellAt (i*2) (by omega))).trans (by rw[k1,hx]),_,((World.cell?_of_block (a:=⟨S,i*2+1,none⟩) hold).trans (hrow.cellAt (i*2+1) (by omega))).trans k2⟩
 have hEnv:RdEnv (w1.alloc (.cells #[.slice (some ⟨S,0,none⟩) L.length cap,.int .i64 0,.int .i64 0] 120)) w1.heap.size L:=by
  have hvl:=HVl.out;have hws:=hbel.size;have hFr:Fr [] w (w1.alloc (.cells #[.slice (some ⟨S,0,none⟩) L.length cap,.int .i64 0,.int .i64 0] 120)):=(fr_below hbel []).trans (Fr.alloc _ _ _);refine⟨HV.out.fr hFr (by simp) (by simp),by omega,by omega,fun t ht=>?_⟩;rw[←hL] at ht;rcases List.mem_append.1 ht with h | h
  ·have:=(sgs_mem _ _ _ h).2;omega
  ·simp at h;subst h;simp
 have HFr1:Hid (Fr [] w w1):=hideIt (fr_below hbel []);have HG:=hideIt ((genOk 20).ok w.heap.size _ _ _ _ _ hRd hEnv hE (by have:=hbel.size;simp;omega) (Nat.le_refl _));rw[show ((20 - 20:Nat):Int)=0 from rfl] at HG;have HP:=hideIt hP;have hws:=hbel.size;clear hRd hEnv hbel hrow htxt hP HS;go_wp2_with fail
 refine HG.out.mono ?_;rintro y w2 htold;have htold2:∃v a' fl',y=.returned v∧IfV v∧RdAt w2 w1.heap.size S L a' fl'∧Fr [w1.heap.size] (w1.alloc (.cells #[.slice (some ⟨S,0,none⟩) L.length cap,.int .i64 0,.int .i64 0] 120)) w2∧
   ((∃r bs,gF 20 L=some r∧fl'=0∧L.drop a'=r.s∧GAt 20 w2 w.heap.size v r.g bs∧∀b∈bs,w1.heap.size < b∧NL w2 b)∨(gF 20 L=none∧fl'≠0)):=by
  rcases htold with ⟨r,v,a',bs,k1,rfl,k2,k3,k4,k5,k6,k7⟩ | ⟨v,a',fl',k1,rfl,k2,k3,k4,k5⟩
  ·exact⟨v,a',0,rfl,k5.ifv,k2,k7,.inl ⟨r,bs,k1,rfl,k3,k5,fun b hb=>⟨by have:=(k6 b hb).1;simp at this;omega,(k6 b hb).2⟩⟩⟩
  ·exact⟨v,a',fl',rfl,k2,k4,k5,.inr ⟨k1,k3⟩⟩
 obtain⟨v,a',fl',rfl,hiv,h2,hf2,hcase⟩:=htold2;have hX:=expect_any w2 w1.heap.size S L a' fl' [] h2;have HF2:Hid (Fr [] w w2):=hideIt (HFr1.out.trans (fr_nil_of_new ((Fr.alloc _ _ _).trans hf2) (Nat.le_refl _)));have hw2:=hf2.size;have hSlt2:=h2.lt;rcases hcase with ⟨r,bs,k1,rfl,k3,k5,k6⟩ | ⟨k1,k2⟩
 ·have hh:r.s.headD []=L.getD a' []:=by rw[←k3,drop_get h2.lt];rfl
  by_cases ht:L.getD a' []= []
  ·have hp:parseF l=some r.g:=by rw[HP.out,k1];simp only[hh,ht,if_true]
   have hx:expS L [] a' 0=(passS L.length a' 0,0):=by unfold expS;rw[if_pos ht]
   rw[hx] at hX;have HX:=hideIt hX;have HPr:=hideIt hp;have HGt:=hideIt k5;have HK6:=hideIt k6;clear h2 hf2 hX hp hx k1 k3 k5 hh ht k6 HG HP;rcases hiv with rfl | ⟨T1,x1,rfl⟩;all_goals (
    go_wp2_with fail
    refine HX.out.mono ?_;rintro y w3 ⟨rfl,h3,hf3⟩;have c2:=h3.c2;have HGt3:=hideIt (HGt.out.fr hf3 (fun b hb=>by have h6:=(HK6.out b hb).1;rw[List.mem_singleton];omega));have HNl:=hideIt (fun b hb=>(HK6.out b hb).2.of (hf3.block b (HGt.out.in_ b hb).2 (by have h6:=(HK6.out b hb).1;rw[List.mem_singleton];omega)));have HF3:=hideIt (HF2.out.new2 hf3 (by omega));clear h3 hf3;go_wp2;go_ret2;exact .inl ⟨_,_,_,HPr.out,rfl,HGt3.out,HNl.out,HF3.out⟩)
  ·have hp:parseF l=none:=by rw[HP.out,k1];simp only[hh,ht,if_false]
   have hx:expS L [] a' 0=(a',3):=by unfold expS;rw[if_neg ht,failS_ok,passS_bad (by decide)]
   rw[hx] at hX;have HX:=hideIt hX;have HPr:=hideIt hp;clear h2 hf2 hX hp hx k1 k3 k5 hh ht k6 HG HP;rcases hiv with rfl | ⟨T1,x1,rfl⟩;all_goals (
    go_wp2_with fail
    refine HX.out.mono ?_;rintro y w3 ⟨rfl,h3,hf3⟩;obtain⟨⟨cap3,c0,hcap⟩,c1,c2,_,_,row,hlt,_,_⟩:=h3;obtain⟨_,x3,hx3⟩:=row a' hlt;have hlt':(a':Int) < (L.length:Int):=by omega
    have HF3:=hideIt (HF2.out.new2 hf3 (by omega));clear row hf3;go_wp2
    go_region
    go_wp2;go_ret2;exact .inr ⟨HPr.out,_,_,rfl,(HF3.out.trans (Fr.alloc _ _ _)).trans (Fr.drewN _ _ 1)⟩)
 ·have hp:parseF l=none:=by rw[HP.out,k1]
  have hx:expS L [] a' fl'=(a',fl'):=expS_bad k2;rw[hx] at hX;have HX:=hideIt hX;have HPr:=hideIt hp;have hne:(fl'==0)=false:=by simp[k2]
  clear h2 hf2 hX hp hx k1 HG HP;rcases hiv with rfl | ⟨T1,x1,rfl⟩;all_goals (
   go_wp2_with fail
   refine HX.out.mono ?_;rintro y w3 ⟨rfl,h3,hf3⟩;obtain⟨⟨cap3,c0,hcap⟩,c1,c2,_,_,row,hlt,_,_⟩:=h3;obtain⟨_,x3,hx3⟩:=row a' hlt;have hlt':(a':Int) < (L.length:Int):=by omega
   have HF3:=hideIt (HF2.out.new2 hf3 (by omega));clear row hf3;go_wp2
   go_region
   go_wp2;go_ret2;exact .inr ⟨HPr.out,_,_,rfl,(HF3.out.trans (Fr.alloc _ _ _)).trans (Fr.drewN _ _ 1)⟩)
end Go.Proofs.YtjpklmighoondaaGreatDoor.Gn
namespace Go.Proofs.YtjpklmighoondaaGreatDoor.Fa
open Go.RowKit
theorem gat_base:∀{n:Nat} {w:World} {base base':Nat} {v:Value} {g:Gn.Gt} {bs:List Nat},Gn.GAt n w base v g bs→base'≤base→Gn.GAt n w base' v g bs
 | 0,_,_,_,_,_,_,h,_=>h.elim
 | _+1,_,_,_,_,.rd _,_,h,_=>h
 | _+1,_,_,_,_,.wr _ _ _,_,h,_=>h
 | n+1,w,base,base',v,.lim g left,bs,h,hb=>by
  obtain⟨b,u,cs,h1,rfl,h2,h3,h4,h5,h6,h7,h8⟩:=h;exact⟨b,u,cs,h1,rfl,by omega,h3,h4,h5,h6,h7,gat_base h8 hb⟩
 | n+1,w,base,base',v,.mix l,bs,h,hb=>by
  obtain⟨b,g,cap,us,cs,h1,rfl,h2,h3,h4,h5,h6,h7,h8,h9,h10⟩:=h;exact⟨b,g,cap,us,cs,h1,rfl,by omega,h3,h4,h5,h6,h7,ownsRow_base h8 hb,h9,h10.mono fun _ _ _ _ h=>gat_base h hb⟩
 | n+1,w,base,base',v,.thn l,bs,h,hb=>by
  obtain⟨b,r,g,us,cs,h1,rfl,h2,h3,h4,h5,h6,h7,⟨o,cap,r1,r2,r3,r4,r5,r6⟩,h9,h10⟩:=h;exact⟨b,r,g,us,cs,h1,rfl,by omega,h3,h4,h5,h6,h7,⟨o,cap,r1,r2,r3,by omega,r5,r6⟩,h9,h10.mono fun _ _ _ _ h=>gat_base h hb⟩
theorem on_le (t:Gn.Tp) (n:Int):t.u≤(t.on n).u:=by
 unfold Gn.Tp.on
 split
 ·exact Nat.le_refl _
 ·exact Nat.le_succ _
theorem mixF_mono {nx:Gn.Gt→Gn.Tp→Gn.Gv} (h:∀g t,t.u≤(nx g t).t.u):∀(k:Nat) (l:List Gn.Gt) (t:Gn.Tp),t.u≤(Gn.mixF nx k l t).t.u
 | 0,_,_=>Nat.le_refl _
 | k+1,l,t=>by
  have h1:=on_le t l.length;have h2:=h (l.getD (t.below l.length).toNat (.rd 0)) (t.on l.length);simp only[Gn.mixF]
  split
  ·exact Nat.le_trans h1 h2
  ·exact Nat.le_trans (Nat.le_trans h1 h2) (mixF_mono h k _ _)
theorem thnF_mono {nx:Gn.Gt→Gn.Tp→Gn.Gv} (h:∀g t,t.u≤(nx g t).t.u):∀(l:List Gn.Gt) (t:Gn.Tp),t.u≤(Gn.thnF nx l t).t.u
 | [],_=>Nat.le_refl _
 | g::l,t=>by
  have h2:=h g t;simp only[Gn.thnF]
  split
  ·exact h2
  ·exact Nat.le_trans h2 (thnF_mono h l _)
theorem nextF_mono:∀(n:Nat) (g:Gn.Gt) (t:Gn.Tp),t.u≤(Gn.nextF n g t).t.u
 | 0,_,_=>Nat.le_refl _
 | n+1,.rd _,_=>Nat.le_refl _
 | n+1,.wr _ _ _,t=>on_le _ _
 | n+1,.lim g k,t=>by
  rw[Gn.nextF]
  split
  ·exact Nat.le_refl _
  ·exact nextF_mono n g t
 | n+1,.mix l,t=>mixF_mono (nextF_mono n) _ _ _
 | n+1,.thn l,t=>thnF_mono (nextF_mono n) _ _
theorem begF_mono (T:Trl) (c:Int):T.t.u≤(begF T c).1.t.u:=by
 have h:=nextF_mono 20 T.g T.t;unfold begF
 split
 ·exact Nat.le_refl _
 ·split
  ·exact h
  ·split<;>exact h
theorem moveF_mono (T:Trl):T.t.u+1≤(moveF T).t.u:=by
 have h10:T.t.u+1=(T.on 10).t.u:=by
  show _=(T.t.on 10).u;unfold Gn.Tp.on;rw[if_neg (by decide)]
 rw[h10];unfold moveF;dsimp only;have hm:∀w,(T.on 10).t.u≤(mesF (T.on 10) w).t.u:=fun w=>on_le _ _
 split
 ·exact Nat.le_trans (on_le _ _) (begF_mono ((T.on 10).on T.p.k) _)
 split
 ·exact hm 2
 split
 ·exact hm 3
 split
 ·exact hm 4
 ·have h6:(T.on 10).t.u≤((T.on 10).on 6).t.u:=on_le _ _;have hon:∀n,((T.on 10).on 6).t.u≤(((T.on 10).on 6).on n).t.u:=fun n=>on_le _ _
  unfold trouF;dsimp only;repeat' split
  all_goals first | exact h6 | exact Nat.le_trans h6 (hon _)
theorem ini0 {n k ask tell:Nat} (back:Bool) (h1:1≤n) (h7:n≤7) (h8:k≤8):Ini (St.pst0 n k ask tell back) where
 inv:=fun l hl=>by
  have:=St.runP_inv (ask:=ask) (tell:=tell) back h1 h7 h8 l hl l.length (Nat.le_refl _)
  rwa [List.take_length] at this
 hon:=fun m hm=>by cases hm
def T00 (n k ask tell:Nat) (back:Bool) (g:Gn.Gt) (l:List Int):Trl:=⟨St.pst0 n k ask tell back,sto0 n k ask tell back,g,⟨l,0⟩,0,false⟩
theorem gd0 {n k ask tell:Nat} {back:Bool} {g:Gn.Gt} {l:List Int} (hd:Gn.htLe 20 g) (hw:Gn.wtF 20 g≤2001):Gd (St.pst0 n k ask tell back) (sto0 n k ask tell back) 0 (T00 n k ask tell back g l):=
 ⟨⟨⟨[],Nat.le_refl _,rfl,rfl⟩,Nat.zero_le _,hd,hw⟩,Nat.le_refl _,Nat.le_refl _⟩
def trObj (n k ask tell:Int) (back:Bool) (ti ge:ByteArray) (bud:Int) (B:Nat) (v tp:Value):Obj:=
 .cells #[.int .i64 n,.int .i64 k,.int .i64 ask,.int .i64 tell,.bool back,.string ti,.string ge,.int .i64 bud,.pointer (some ⟨B,0,none⟩),v,tp,.int .i64 0,.int .i64 0,.bool false] 67 (0,0)
theorem tr_start {w0 W:World} {B N C n k ask tell:Nat} {back:Bool} {ti ge:ByteArray} {bud:Int} {g:Gn.Gt} {v:Value} {bs:List Nat} {a:Option Addr} {cap base:Nat} {l:List Int}
  (hS:St.StoP w0 W (St.stK0 B N C) (St.pst0 n k ask tell back)) (hg:Gn.GAt 20 W base v g bs) (hb:w0.heap.size≤base) (hB:B < base∧N < base∧C < base) (hn:∀b∈bs,Gn.NL W b)
  (hcap:l.length≤cap) (hl:l= []∨∃b off,a=some ⟨b,off,none⟩∧b < w0.heap.size∧∀i,(h:i < l.length)→W.cell? ⟨b,off+i,none⟩=some (.int .i64 l[i])):
  TrW w0 (W.alloc (trObj n k ask tell back ti ge bud B v (.slice a l.length cap))) W.heap.size (St.stK0 B N C) v bs ti bud (T00 n k ask tell back g l):=by
 have hal:Below W.heap.size W (W.alloc (trObj n k ask tell back ti ge bud B v (.slice a l.length cap))):=St.belA (Below.refl _ _) _;have hnew:(W.alloc (trObj n k ask tell back ti ge bud B v (.slice a l.length cap))).heap[W.heap.size]?=some (trObj n k ask tell back ti ge bud B v (.slice a l.length cap)):=heap_alloc_new W _;have hc:∀i,(W.alloc (trObj n k ask tell back ti ge bud B v (.slice a l.length cap))).cell? ⟨W.heap.size,i,none⟩=(#[.int .i64 (n:Int),.int .i64 (k:Int),.int .i64 (ask:Int),.int .i64 (tell:Int),.bool back,.string ti,.string ge,.int .i64 bud,.pointer (some ⟨B,0,none⟩),v,.slice a l.length cap,.int .i64 0,.int .i64 0,.bool false]:Array Value)[i]?:=fun i=>cell_of_row _ _ _ _ 67 _ hnew
 have hf:∀i,(W.alloc (trObj n k ask tell back ti ge bud B v (.slice a l.length cap))).frozen? ⟨W.heap.size,i,none⟩=false:=fun i=>frozen_of_row _ _ _ _ 67 hnew
 have hin:=hg.in_;have hlow:base≤W.heap.size∨bs= []:=by
  cases bs with
  | nil=>exact .inr rfl
  | cons b bs=>exact .inl (by have:=hin b (by simp);omega)
 have hw:=hS.bel.size;refine⟨hS.below hal,⟨⟨a,cap,(hc 10).trans rfl,hcap,hl.imp id fun⟨b,off,e,hb,hx⟩=>⟨b,off,e,hb,fun i hi=>(hal.cell (p:=⟨b,off+i,none⟩) (by show b < W.heap.size;omega)).trans (hx i hi)⟩⟩,(hc 11).trans rfl,hf 11,hw⟩,gat_base (hg.low (fun b hb'=>hal.block b (hin b hb').2) hal.size) hb,fun hm=>by have:=(hin _ hm).2;omega,⟨(hc 0).trans rfl,(hc 1).trans rfl,(hc 5).trans rfl,(hc 7).trans rfl,(hc 8).trans rfl,(hc 9).trans rfl,(hc 12).trans rfl,(hc 13).trans rfl,hf 12,hf 13⟩,fun b hb'=>?_⟩;have hne:∀x,base≤x→¬(St.stK0 B N C).own k x:=fun x hx ho=>by
  rcases ho with h | h | h | h | h | h | ⟨i,_,h⟩
  ·have e:x=B:=h;omega
  ·have e:x=N:=h;omega
  ·have e:x=C:=h;omega
  ·cases h
  ·cases h
  ·cases h
  ·cases h
 rcases hb' with rfl | hm
 ·refine⟨fun ho=>?_,fun hl=>?_⟩
  ·have:=(hS.own_lt ho).2;omega
  ·unfold St.LTg at hl;rw[hnew] at hl;rcases hl with hl | hl
   ·exact absurd (show (67+1:Nat)=267 from hl) (by decide)
   ·exact absurd (show (67+1:Nat)=5 from hl) (by decide)
 ·refine⟨hne b (hin b hm).1,fun hl=>?_⟩;unfold St.LTg at hl;rw[hal.block b (hin b hm).2,←tgD_tagD] at hl;rcases hl with hl | hl
  ·exact(hn b hm).1 hl
  ·exact(hn b hm).2 hl
end Go.Proofs.YtjpklmighoondaaGreatDoor.Fa
