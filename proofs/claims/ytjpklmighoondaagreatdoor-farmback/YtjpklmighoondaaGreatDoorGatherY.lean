/-
  What ops of a history does: those that are over, and those that have no end, sorted.
  What Ops of package event does: as the plain history.
  What was seen, in memory: events and stamps by their places.
  The statement StoreLinear, walked.
-/
import Derived.Test.YtjpklmighoondaaGreatDoorHistEY
import Derived.Maps.RangeWalk
import Derived.Test.YtjpklmighoondaaGreatDoorSwOY
import Derived.Deep.RegionHeld3
import Derived.BigQuiet
import Derived.Test.YtjpklmighoondaaGreatDoorSwMY
namespace Go.Proofs.YtjpklmighoondaaGreatDoor
open Go.RowKit
theorem row_ne_iter {H:Type} {w:World} {P:Program} {k:TypeId} {R:Value→Option (DataW H×List MemPlace)} {b r n cl base n2:Nat} {D:DataW H} {left:Lit→Bool} {e:TypeId} {size:Nat} {v:Value} {xs:List Value}
  (h:w.ranges P k R b r n D left cl) (ho:w.ownsRow base e size v n2 xs):v.ownBlock≠some r:=by
 obtain⟨_,_,_,_,_,_,_,_,_,hr,_⟩:=h;rcases ho.2 with ⟨rfl,_⟩ | ⟨g,cap,cur,rfl,_,hh,_⟩
 ·simp[Value.ownBlock]
 ·intro k;simp[Value.ownBlock] at k;subst k;rw[hr] at hh;cases hh
structure Col (D : DataW Unit) (left : Lit → Bool) (qs : List Int) : Prop where
 nodup:qs.Nodup
 mem:∀q,q∈qs↔(Maps.has D (.int .i64 q)=true∧left (.int .i64 q)=false)
theorem col_start (D:DataW Unit):Col D (Maps.has D) []:=⟨List.nodup_nil,fun q=>by cases Maps.has D (.int .i64 q)<;>simp⟩
theorem col_step {D:DataW Unit} {left:Lit→Bool} {qs:List Int} {x:Int} (h:Col D left qs) (hl:left (.int .i64 x)=true) (hh:Maps.has D (.int .i64 x)=true):Col D (fun z=>left z&& !z.sameKey (.int .i64 x)) (qs++ [x]):=by
 have hx:x∉qs:=fun k=>by have:=((h.mem x).1 k).2;rw[hl] at this;cases this
 refine⟨?_,fun q=>?_⟩
 ·rw[List.nodup_append];refine⟨h.nodup,by simp,?_⟩;intro a ha b hb;simp at hb;subst hb;exact fun k=>hx (k▸ha)
 ·rw[List.mem_append,List.mem_singleton,h.mem q];by_cases e:q=x
  ·subst e;simp[hh,Lit.sameKey]
  ·have:(Lit.int .i64 q).sameKey (.int .i64 x)=false:=by simp[Lit.sameKey,e]
   simp[this,e]
theorem col_end {D:DataW Unit} {left:Lit→Bool} {qs:List Int} {busy:Int→Option Opn} (h:Col D left qs) (hl:∀kl,left kl=false) (hb:∀q:Int,Maps.has D (.int .i64 q)=(busy q).isSome):∀q,q∈qs↔(busy q).isSome=true:=fun q=>by
 rw[h.mem q,hb q];simp[hl]
theorem invKey (key:Value) (kl:Lit) (h:keyOf Tryz.prog 3 key=some kl):∃x,key=Value.int .i64 x:=by
 obtain⟨x,rfl,_⟩:=Maps.keyOf_int_inv Tryz.underlying3 h;exact⟨x,rfl⟩
theorem invElem (v:Value) (y:DataW Unit×List MemPlace) (h:opElem v=some y):∃c:Opn,v=(fun c:Opn=>Value.agg #[.int .i64 c.p,.int .i64 c.k,.int .i64 c.d,.int .i64 c.a,.int .i64 c.b,.int .i64 c.r,.int .i64 c.c,.int .i64 c.e]) c:=by
 obtain⟨x,rfl,_⟩:=opElem_inv h;exact⟨x,rfl⟩
theorem gather_step {s:Hs} {D:DataW Unit} {left:Lit→Bool} {qs:List Int} {x:Int} {c:Opn} {kl:Lit} {y:DataW Unit×List MemPlace} (hq:∀q:Int,Maps.has D (.int .i64 q)=(s.busy q).isSome∧∀o,s.busy q=some o→∀z,D.atKey (.int .i64 q) z=opD o)
  (hc:Col D left qs) (hkey:keyOf Tryz.prog 3 (Value.int .i64 x)=some kl) (hl:left kl=true) (hv:opElem (.agg #[.int .i64 c.p,.int .i64 c.k,.int .i64 c.d,.int .i64 c.a,.int .i64 c.b,.int .i64 c.r,.int .i64 c.c,.int .i64 c.e])=some y) (hat:∀zd,D.atKey kl zd=y.1):
  Col D (fun z=>left z&& !z.sameKey kl) (qs++ [x])∧opCells (s.done++(qs++ [x]).filterMap s.busy)=opCells (s.done++qs.filterMap s.busy)++c.list:=by
 obtain⟨x',ex,rfl,_⟩:=Maps.keyOf_int_inv Tryz.underlying3 hkey;cases ex;have hy:y=(opD c,[]):=(Option.some.inj hv).symm;subst hy;have hh:Maps.has D (.int .i64 x)=true:=Maps.has_true_of_atKey hat;have hb:s.busy x=some c:=by
  have h1:=(hq x).1;rw[hh] at h1;obtain⟨o,ho⟩:=Option.isSome_iff_exists.1 h1.symm;have h2:=(hq x).2 o ho .nil;rw[hat] at h2;rw[ho,opD_inj h2]
 refine⟨col_step hc hl hh,?_⟩;rw[List.filterMap_append,←List.append_assoc];simp only[List.filterMap_cons,List.filterMap_nil,hb];exact opCells_snoc _ _
theorem row_end {w:World} {base n:Nat} {v:Value} {L:List Opn} (h:w.ownsRow base 157 8 v n (opCells L)):∃(a:Option Addr) (cap:Nat),v=.slice a L.length cap∧L.length≤cap∧n=L.length∧(L.length=0∨∃g,a=some ⟨g,0,none⟩∧base≤g∧g < w.heap.size∧w.ownsRow base 157 8 (.slice (some ⟨g,0,none⟩) L.length cap) L.length (opCells L)):=by
 have hl:=h.1;rw[opCells_len] at hl;have e:n=L.length:=by omega
 subst e;have h':=h;rcases h.2 with ⟨rfl,h0⟩ | ⟨g,cap,cur,rfl,hg,hh,h1,_⟩
 ·exact⟨none,0,by rw[h0],by omega,rfl,.inl h0⟩
 ·exact⟨some ⟨g,0,none⟩,cap,rfl,h1,rfl,.inr ⟨g,rfl,hg,(Array.getElem?_eq_some_iff.1 hh).1,h'⟩⟩
theorem opsOf_of {s:Hs} {qs:List Int} {L:List Opn} (hn:qs.Nodup) (hm:∀q,q∈qs↔(s.busy q).isSome=true) (hp:L.Perm (s.done++qs.filterMap s.busy)) (hs:L.Pairwise (fun x y=>x.c≤y.c)):OpsOf s L:=⟨qs,hn,hm,hp,hs⟩
set_option maxHeartbeats 2000000 in
theorem ops_any (w:World) (B M base cnt:Nat) (s:Hs) (H:HistAt w B M base cnt s) (hcn:cnt≤300) (hn:s.done.length≤200):
  Calls Tryz.prog 33 #[.pointer (some ⟨B,0,none⟩)] w fun e w'=>∃(a:Option Addr) (cap:Nat) (L:List Opn),e=.returned (.slice a L.length cap)∧OpsOf s L∧(L.length≤cap∧L.length≤1000)∧(0 < L.length→∃g,a=some ⟨g,0,none⟩∧OpsAt w' g 0 L)∧Below M w w':=by
 have hB:B < w.heap.size:=Nat.lt_of_lt_of_le H.lt2 H.lt3;have hM:M < w.heap.size:=Nat.lt_trans H.lt1 hB;have hl1:=H.lt1;have hl2:=H.lt2;have hl3:=H.lt3;have hc0:=H.mapc;obtain⟨v,hc9,_,hrow⟩:=H.row;obtain⟨D,hown,hq⟩:=H.map;have HQ:=hideIt hq;have HR:=hideIt hrow;obtain⟨i0,hi,hz0,hz1,hz2⟩:=info_parts info31;clear H hq hrow;go_enter Tryz.func33,Tryz.ntmps33
 go_wp2_with (first | (at_range;refine wpList_range_own _ rfl _ 80 rfl 3 157 keyedIEv Tryz.underlying80 opElem M cnt D rfl hown ?_;intro w0 hrg0 hg0 hs0) | go_in)
 go_frame
 go_loopw [3] (fun v wr=>∃(left:Lit→Bool) (cl:Nat) (qs:List Int),wr.ranges Tryz.prog 3 opElem M w.heap.size cnt D left cl∧wr.ownsRow base 157 8 v (s.done.length+qs.length) (opCells (s.done++qs.filterMap s.busy))∧Col D left qs∧qs.length+cl≤cnt∧Below M w wr)
  (fun _ wr=>wr.rangeLeft M w.heap.size)
 case atStart=>
  refine⟨_,_,[],hrg0,?_,col_start D,by simpa using hown.size_le,(Below.refl M w).grown hg0 (by omega) (fun k hk=>by cases hk)⟩
  simpa using HR.out.kept hg0 (by by_cases e:v.ownBlock=none<;>simp[e])
 case round=>
  obtain⟨left,cl,qs,hrg,hro,hcol,hcnt,hnx⟩:=hrel;have hir:=row_ne_iter hrg hro;have hsz:=hnx.size;have hrl:=hrg.lt;go_wp2_with (first | (at_next;refine wpList_next_ranges _ rfl _ rfl 3 keyedIEv opElem (Value.int .i64) (fun c:Opn=>Value.agg #[.int .i64 c.p,.int .i64 c.k,.int .i64 c.d,.int .i64 c.a,.int .i64 c.b,.int .i64 c.r,.int .i64 c.c,.int .i64 c.e]) invKey invElem M w.heap.size cnt D left cl rfl hrg ?_ ?_) | go_in)
  ·intro hz hleft;obtain⟨a,cap,hvv,hcap,hlen,hcase⟩:=row_end hro;have hmem:=col_end hcol hleft (fun q=>(HQ.out q).1);have HO:=hideIt (fun L=>opsOf_of (s:=s) (L:=L) hcol.nodup hmem);have hlen300:(s.done++qs.filterMap s.busy).length≤1000:=by omega
   generalize (s.done++qs.filterMap s.busy)=L0 at hvv hcap hcase HO hlen300;rw[hvv];clear hvv hro hrg hcol hmem hir hleft hlen;rcases hcase with h0 | ⟨g,rfl,hg,hgs,hro⟩
   ·have hL:L0= []:=List.length_eq_zero_iff.1 h0;subst hL;go_wp2_with fail
    refine(sort_none _ _ _ _).mono ?_;rintro e w2 ⟨rfl,rfl⟩;go_wp2;go_ret;exact⟨a,cap,[],rfl,HO.out [] (List.Perm.refl _) List.Pairwise.nil,⟨Nat.zero_le _,Nat.zero_le _⟩,fun h=>absurd h (by simp),hnx⟩
   ·have HRO:=hideIt hro;clear hro;go_wp2_with fail
    refine(sort_list g cap base M L0 _ hlen300 HRO.out (by omega) (by omega) hgs).mono ?_;rintro e w2 ⟨rfl,L',hp,hl,hs,hat,hb2⟩;have R1:=hideIt (HO.out L' hp hs);have R2:=hideIt hat;have R3:=hideIt (hnx.trans hb2);have R4:Hid (L'.length=L0.length):=hl;clear hp hs hat hb2 hl;go_wp2;go_ret;exact⟨some ⟨g,0,none⟩,cap,L',by rw[R4.out];rfl,R1.out,by rw[R4.out];exact⟨hcap,hlen300⟩,fun _=>⟨g,rfl,R2.out⟩,R3.out⟩
  ·intro x c kl y1 y2 w1 cnt1 hkey hlx hv hat hrg1 hlt hg1 hs1 hen;obtain⟨hcol',hcells⟩:=gather_step (y:=(y1,y2)) HQ.out hcol hkey hlx hv hat;have hro1:=hro.kept hg1 (.inr hir);have HM:=hideIt (show w1.rangeLeft M w.heap.size < wr.rangeLeft M w.heap.size by rw[hrg1.left_eq,hrg.left_eq];exact hlt);have hqs:qs.length+cl≤300:=by omega
   have HCE:=hideIt hcells;have HCO:=hideIt hcol';have HS1:Hid (w1.heap.size=wr.heap.size):=hs1;have hsz1:w.heap.size≤w1.heap.size:=by omega
   clear hkey hlx hv hat hcells hcol' hs1;go_wp2_with (at_builtin;refine wpList_append_own _ rfl _ _ 46 rfl base 157 i0 _ 8 64 Tryz.underlying46 hi hz0 hz1 hz2 rfl (by decide) _ _ _ rfl ((hro1.alloc _).alloc _) ⟨w1.heap.size+1,0,none⟩ 1 1 c.list rfl rfl ?c1 ?c2 ?c3 ?c4 ?c5 ?_)
   case c1=>
    intro j u hj
    match j,hj with
    | 0,hj=>simp[Opn.list] at hj;subst hj;simp[Addr.add]
    | 1,hj=>simp[Opn.list] at hj;subst hj;simp[Addr.add]
    | 2,hj=>simp[Opn.list] at hj;subst hj;simp[Addr.add]
    | 3,hj=>simp[Opn.list] at hj;subst hj;simp[Addr.add]
    | 4,hj=>simp[Opn.list] at hj;subst hj;simp[Addr.add]
    | 5,hj=>simp[Opn.list] at hj;subst hj;simp[Addr.add]
    | 6,hj=>simp[Opn.list] at hj;subst hj;simp[Addr.add]
    | 7,hj=>simp[Opn.list] at hj;subst hj;simp[Addr.add]
    | n+8,hj=>simp[Opn.list] at hj
   case c2=>intro u hu;simp[Opn.list] at hu;rcases hu with rfl | rfl | rfl | rfl | rfl | rfl | rfl | rfl<;>rfl
   case c3=>unfold maxLen;omega
   case c4=>omega
   case c5=>simp;omega
   ·intro v' w2 hown2 hgrow _;have hrow2:∀k,Value.ownBlock _=some k→base≤k:=fun k hk=>(hro1.lt k hk).1
    have hrg2:=((hrg1.alloc _).alloc _).kept hgrow (fun k=>by have:=hrow2 M k.symm;omega) (Ne.symm hir);have R1:Hid (w2.ownsRow base 157 8 v' (s.done.length+(qs++ [x]).length) (opCells (s.done++(qs++ [x]).filterMap s.busy))):=by
     show w2.ownsRow base 157 8 v' (s.done.length+(qs++ [x]).length) (opCells (s.done++(qs++ [x]).filterMap s.busy));rw[HCE.out,List.length_append];exact hown2
    have R2:Hid (Below M w w2):=((((hnx.grown hg1 (by omega) (fun k hk=>by have:=Option.some.inj hk;omega)).alloc (by omega) _).alloc (by simp;omega) _).grown hgrow (by simp;omega) (fun k hk=>by have:=hrow2 k hk;omega));have R3:=hideIt hrg2;have R4:Hid (w2.rangeLeft M w.heap.size < wr.rangeLeft M w.heap.size):=by
     show w2.rangeLeft M w.heap.size < wr.rangeLeft M w.heap.size;rw[hrg2.left_eq,hrg.left_eq];exact hlt
    clear hown2 hgrow hrg2 hro1 hro hrg hrg1 hg1;go_wp2
    go_roundw
    case rel=>exact⟨_,_,qs++ [x],R3.out,R1.out,HCO.out,by simp;omega,R2.out⟩
    case measure=>exact R4.out
open Go.RowKit
theorem EvsAt.below {w w':World} {B b off:Nat} {l:List Ev} (h:EvsAt w b off l) (hb:b < B) (hn:Below B w w'):EvsAt w' b off l:=fun i hi=>(h i hi).below hb hn
def OpsTold (l:List Ev) (e:Ending) (w':World):Prop:=
 (120 < l.length∧e=.returned (.tuple #[.slice none 0 0,.iface 55 (.int .i64 4)]))∨
 (∃(k g:Nat) (n:Int) (h:k < l.length),FineH l k∧seeN l[k] (hist l k)=n∧n≠0∧e=.returned (.tuple #[.slice none 0 0,.iface 85 (.pointer (some ⟨g,0,none⟩))])∧w'.cell? ⟨g,0,none⟩=some (.int .i64 n)∧w'.cell? ⟨g,1,none⟩=some (.int .i64 k))∨
 (l.length≤120∧FineH l l.length∧∃(a:Option Addr) (cap:Nat) (L:List Opn),e=.returned (.tuple #[.slice a L.length cap,.nilIface])∧OpsOf (hist l l.length) L∧(L.length≤cap∧L.length≤1000)∧(0 < L.length→∃g,a=some ⟨g,0,none⟩∧OpsAt w' g 0 L))
theorem seeS_len (n:Int) (e:Ev) (s:Hs):(seeS n e s).done.length≤s.done.length+1:=by
 unfold seeS
 split
 ·simp
 ·split
  ·omega
  ·split
   ·simp
   ·split<;>simp
theorem hist_len (l:List Ev) (n:Nat):(hist l n).done.length≤n:=by
 induction n with
 | zero=>simp[hist,Hs.new]
 | succ n ih=>
  show (match l[n]? with | some e=>seeS n e (hist l n) | none=>hist l n).done.length≤n+1;cases l[n]? with
  | none=>show (hist l n).done.length≤n+1;omega
  | some e=>have:=seeS_len n e (hist l n);show (seeS n e (hist l n)).done.length≤n+1;omega
theorem fineH_succ {l:List Ev} {n:Nat} (h:FineH l n) (hn:n < l.length) (hz:seeN l[n] (hist l n)=0):FineH l (n+1):=fun i hi hin=>by
 by_cases e:i=n
 ·subst e;exact hz
 ·exact h i hi (by omega)
theorem hist_start (w:World) (l:List Ev):HistAt ((w.alloc (.map #[] 0)).alloc (.cells #[.map (some w.heap.size),.bool false,.bool false,.bool false,.bool false,.bool false,.bool false,.bool false,.bool false,.slice none 0 0] 83)) (w.heap.size+1) w.heap.size (w.heap.size+2) 0 (hist l 0):=by
 have e1:(w.alloc (.map #[] 0)).heap.size=w.heap.size+1:=by simp
 refine⟨?_,fun p p0 p8=>?_,⟨.slice none 0 0,?_,?_,World.ownsRow_nil _ _ _ _⟩,(mapIs_made w).alloc _,by omega,by omega,by simp⟩
 ·rw[←e1];simp
 ·rw[←e1];have:p=0∨p=1∨p=2∨p=3∨p=4∨p=5∨p=6∨p=7:=by omega
  rcases this with rfl | rfl | rfl | rfl | rfl | rfl | rfl | rfl<;>simp[hist,Hs.new]
 ·rw[←e1];simp
 ·rw[←e1];simp
set_option maxHeartbeats 400000 in
theorem evOps_long (l:List Ev) (a:Option Addr) (cap:Nat) (w:World) (h:120 < l.length) (h2:l.length≤maxLen):
  Calls Tryz.prog 15 #[.slice a l.length cap] w fun e w'=>OpsTold l e w'∧Below w.heap.size w w':=by
 unfold maxLen at h2;go_enter Tryz.func15,Tryz.ntmps15
 go_wp2;go_ret2;exact⟨.inl ⟨h,rfl⟩,Below.refl _ _⟩
set_option maxHeartbeats 1000000 in
theorem evOps_some (l:List Ev) (b off cap:Nat) (w:World) (hlen:l.length≤120) (hl:EvsAt w b off l) (hb:b < w.heap.size):
  Calls Tryz.prog 15 #[.slice (some ⟨b,off,none⟩) l.length cap] w fun e w'=>OpsTold l e w'∧Below w.heap.size w w':=by
 have HL:=hideIt hl;clear hl;have hmm:= @run_makeMap Tryz.prog;have h120:decide (120 < (l.length:Int))=false:=by simp;omega
 have HS:=hideIt (hist_start w l);go_enter Tryz.func15,Tryz.ntmps15
 go_wp2
 go_loopw [16] (fun i wr=>∃k:Nat,k≤l.length∧i=.int .i64 k∧FineH l k∧HistAt wr (w.heap.size+1) w.heap.size (w.heap.size+2) k (hist l k)∧Below w.heap.size w wr) (fun i _=>l.length - (intOf i).toNat)
 case atStart=>exact⟨0,Nat.zero_le _,rfl,fun i _ h=>absurd h (Nat.not_lt_zero _),HS.out,belA (belA (Below.refl _ _) _) _⟩
 case round=>
  obtain⟨k,hk,rfl,hf,hh,hnx⟩:=hrel;have HF:=hideIt hf;have HH:=hideIt hh;have hsz:=hnx.size;clear hf hh;by_cases hkl:k < l.length
  ·obtain⟨e,HE⟩:∃e,Hid (l[k]=e):=⟨_,hideIt rfl⟩;have hc:=(HL.out k hkl).below hb hnx;rw[HE.out] at hc;obtain⟨c0,c1,c2,c3,c4,c5,c6⟩:=hc;have hdl:=hist_len l k;have HC:=hideIt (see_any e (k:Int) _ (w.heap.size+1) w.heap.size (w.heap.size+2) k (hist l k) (HH.out.alloc e.obj) (by omega) (by omega));obtain⟨n,HN⟩:∃n,Hid (seeN e (hist l k)=n):=⟨_,hideIt rfl⟩;rw[HN.out] at HC;clear hdl;unfold Ev.agg Ev.obj at HC;by_cases hz:n=0
   ·have hz':(n != 0)=false:=by simp[hz]
    have R1:Hid (FineH l (k+1)):=fineH_succ HF.out hkl (by rw[HE.out,HN.out];exact hz);have HZ:Hid (n=0):=hz;clear hz;go_wp2_with fail
    refine HC.out.mono ?_;rintro ev w1 ⟨rfl,h1,h2⟩;have R2:Hid (HistAt w1 (w.heap.size+1) w.heap.size (w.heap.size+2) (k+1) (hist l (k+1))):=by
     have:=h1 HZ.out;rw[←HE.out,←hist_succ l k hkl] at this;exact this
    have R3:=hideIt ((hnx.alloc hsz _).trans h2);clear h1 h2;go_wp2
    go_roundw
    case rel=>exact⟨k+1,by omega,by go_num,R1.out,R2.out,R3.out⟩
    case measure=>simp[intOf];omega
   ·have hz':(n != 0)=true:=by simp[hz]
    have R1:Hid (FineH l k∧seeN l[k] (hist l k)=n∧n≠0):=⟨HF.out,by rw[HE.out];exact HN.out,hz⟩;clear hz;go_wp2_with fail
    refine HC.out.mono ?_;rintro ev w1 ⟨rfl,h1,h2⟩;have R3:=hideIt ((hnx.alloc hsz _).trans h2);have hsz1:w.heap.size≤w1.heap.size:=R3.out.size;clear h1 h2;go_wp2;go_ret2;exact⟨.inr (.inl ⟨k,w1.heap.size,n,hkl,R1.out.1,R1.out.2.1,R1.out.2.2,rfl,by simp,by simp⟩),R3.out.alloc hsz1 _⟩
  ·have hdl:=hist_len l k;have HC:=hideIt (ops_any wr (w.heap.size+1) w.heap.size (w.heap.size+2) k (hist l k) HH.out (by omega) (by omega));clear hdl;have HK:Hid (k=l.length):=show k=l.length by omega
   go_wp2_with fail
   refine HC.out.mono ?_;rintro ev w1 ⟨a,cp,L,rfl,h1,h2,h3,h4⟩;have R1:Hid (FineH l l.length∧OpsOf (hist l l.length) L):=⟨by rw[←HK.out];exact HF.out,by rw[←HK.out];exact h1⟩;have R2:=hideIt h3;have R3:=hideIt (hnx.trans h4);clear h1 h3 h4;go_wp2;go_ret2;exact⟨.inr (.inr ⟨hlen,R1.out.1,a,cp,L,rfl,R1.out.2,h2,R2.out⟩),R3.out⟩
set_option maxHeartbeats 1000000 in
theorem evOps_none (a:Option Addr) (cap:Nat) (w:World):
  Calls Tryz.prog 15 #[.slice a 0 cap] w fun e w'=>OpsTold [] e w'∧Below w.heap.size w w':=by
 have hmm:= @run_makeMap Tryz.prog;have HS:=hideIt (hist_start w []);go_enter Tryz.func15,Tryz.ntmps15
 go_wp2;refine wp_loop_rounds 1 ?_;rw[rounds_succ];go_wp2_with fail
 refine(ops_any _ (w.heap.size+1) w.heap.size (w.heap.size+2) 0 (hist [] 0) HS.out (by omega) (by simp[hist,Hs.new])).mono ?_;rintro ev w1 ⟨a,cp,L,rfl,h1,h2,h3,h4⟩;have R1:=hideIt h1;have R2:=hideIt h3;have R3:Hid (Below w.heap.size w w1):=(belA (belA (Below.refl _ _) _) _).trans h4;clear h1 h3 h4;go_wp2;go_ret2;exact⟨.inr (.inr ⟨by simp,fun i h=>absurd h (Nat.not_lt_zero _),a,cp,L,rfl,R1.out,h2,R2.out⟩),R3.out⟩
end Go.Proofs.YtjpklmighoondaaGreatDoor
namespace Go.Proofs.YtjpklmighoondaaGreatDoor.St
open Go.RowKit
def evI (l:List Evp) (i:Nat):Evp:=(l[i]?).getD ⟨0,0,0,0,0,0,0⟩
theorem evCs_at {l:List Evp} {i j:Nat} (hi:i < l.length) (hj:j < 7):(evCs l)[i*7+j]?=(evC (evI l i))[j]?:=by
 have:=flat_at (c:=evC) (m:=7) (fun _=>rfl) l i j hi hj;unfold evCs;rw[this]
 congr 2
 unfold evI;rw[List.getElem?_eq_getElem hi];rfl
end Go.Proofs.YtjpklmighoondaaGreatDoor.St
namespace Go.Proofs.YtjpklmighoondaaGreatDoor
open Go.RowKit
theorem evs_in {W:World} {base:Nat} {v:Value} {l:List St.Evp} (h:W.ownsRow base 54 7 v l.length (St.evCs l)):∃a cap,v=.slice a (l.map toEv).length cap∧((l.map toEv)= []∨∃b,a=some ⟨b,0,none⟩∧b < W.heap.size∧EvsAt W b 0 (l.map toEv)):=by
 obtain⟨a,cap,rfl⟩:=St.ownsRow_slice h;refine⟨a,cap,by rw[List.length_map],?_⟩;rcases St.own_cells h with ⟨_,e⟩ | ⟨g,cap',e,_,hg,hc⟩
 ·exact .inl (by rw[List.length_eq_zero_iff.1 e];rfl)
 ·cases e;refine .inr ⟨g,rfl,hg,fun i hi=>?_⟩;have hi':i < l.length:=by simpa using hi
  have hk:∀j,j < 7→W.cell? ⟨g,0+i*7+j,none⟩=(St.evC (St.evI l i))[j]?:=fun j hj=>by
   rw[Nat.zero_add,hc _ (by omega),St.evCs_at hi' hj]
  have e:(l.map toEv)[i]=toEv (St.evI l i):=by
   rw[List.getElem_map];unfold St.evI;rw[List.getElem?_eq_getElem hi'];rfl
  rw[e];exact⟨hk 0 (by decide),hk 1 (by decide),hk 2 (by decide),hk 3 (by decide),hk 4 (by decide),hk 5 (by decide),hk 6 (by decide)⟩
theorem ops_fine {l:List Ev} (hf:FineH l l.length) (h120:l.length≤120) {e:Ending} {w w':World} (h:OpsTold l e w'∧Below w.heap.size w w'):∃a cap L,e=.returned (.tuple #[.slice a L.length cap,.nilIface])∧OpsOf (hist l l.length) L∧OpsIn w' (.slice a L.length cap) L∧L.length≤1000∧Below w.heap.size w w':=by
 obtain⟨⟨h1,_⟩ | ⟨k,g,n,hk,_,h2,h3,_⟩ | ⟨_,_,a,cap,L,rfl,ho,⟨hc,hm⟩,hat⟩,hb⟩:=h
 ·omega
 ·exact absurd (h2.symm.trans (hf k hk hk)) h3
 ·refine⟨a,cap,L,rfl,ho,⟨a,cap,rfl,hc,by unfold maxLen;omega,?_⟩,hm,hb⟩;by_cases h0:0 < L.length
  ·obtain⟨g,rfl,hg⟩:=hat h0;exact .inr ⟨g,0,rfl,(hg 0 h0).lt,hg⟩
  ·exact .inl (List.length_eq_zero_iff.1 (by omega))
end Go.Proofs.YtjpklmighoondaaGreatDoor
