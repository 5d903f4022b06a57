/-
  Generators in plain Lean: trees, what is given next by a tape, how a text is read.
  Numbers and a tape in memory.
  Numbers, rows of numbers and texts that came in, opened.
  Small facts on memory that each walk uses.
  What came in, opened: lists, element by element.
  Moves in memory.
  Moves, setups and stamps that came in, opened.
  The library functions that the reader asks, laid at this program: numbers of its functions and types, and a fact a field.
  The program's tape: what it gives next.
-/
import Derived.Test.YtjpklmighoondaaGreatDoorRows
import Derived.Test.YtjpklmighoondaaGreatDoorProg
import Derived.WalkKit
import Derived.WalkSpells
import Derived.WalkLawsBesides
import Derived.Laws.OwnMore
import Derived.Laws.AppendOwnNone
import Derived.Deep.QuietTactic
import Derived.BigQuiet
import Derived.ProofKit
import Derived.ChangeOld
import Derived.Below
import Derived.LaidMore
import Derived.LaidSub
import Derived.OpenShut
import Derived.Stop.Joined
import Derived.Deep.Slices
import Derived.SizedLaws
import Derived.Lib.SmallJoins
import Derived.Deep.RegionWith
import Derived.Deep.RegionHeld3
import Derived.LoopTactic
import Derived.Deep.Draws
import Derived.Maps.OwnOps
import Derived.Laws.MakeOwn
import Derived.Deep.MidRow
import Derived.Laws.ResultCell
import Derived.Shelf.Strings.Prefix
import Derived.Shelf.Strings.IndexAnyAll
import Derived.Shelf.Strings.SlTrimAscii
import Derived.Shelf.Strconv.ErrVarAll
import Derived.Shelf.Strconv.AtoiAll
namespace Go.Proofs.YtjpklmighoondaaGreatDoor.Gn
structure Tp where
 l:List Int
 u:Nat
def Tp.cur (t:Tp):Int:=if h:t.u < t.l.length then t.l[t.u] else 0
def Tp.val (t:Tp) (n:Int):Int:=(t.cur%18446744073709551616)%n
def Tp.below (t:Tp) (n:Int):Int:=if n≤0 then 0 else t.val n
def Tp.on (t:Tp) (n:Int):Tp:=if n≤0 then t else {t with u:=t.u+1}
theorem Tp.below_lt {t:Tp} {n:Int} (h:0 < n):0≤t.below n∧t.below n < n:=by
 unfold Tp.below Tp.val;rw[if_neg (by omega)];exact⟨Int.emod_nonneg _ (by omega),Int.emod_lt_of_pos _ h⟩
structure Cl where
 wr:Bool
 key:Int
 v:Int
inductive Gt where
 | rd (k:Int)
 | wr (k lo hi:Int)
 | lim (g:Gt) (left:Nat)
 | mix (l:List Gt)
 | thn (l:List Gt)
instance:Inhabited Gt:=⟨.rd 0⟩
structure Gv where
 c:Option Cl
 g:Gt
 t:Tp
def mixF (nx:Gt→Tp→Gv):Nat→List Gt→Tp→Gv
 | 0,l,t=>⟨none,.mix l,t⟩
 | k+1,l,t=>
  let i:=(t.below l.length).toNat
  let r:=nx (l.getD i (.rd 0)) (t.on l.length)
  match r.c with
  | some c=>⟨some c,.mix (l.set i r.g),r.t⟩
  | none=>mixF nx k (l.eraseIdx i) r.t
def thnF (nx:Gt→Tp→Gv):List Gt→Tp→Gv
 | [],t=>⟨none,.thn [],t⟩
 | g::l,t=>
  let r:=nx g t
  match r.c with
  | some c=>⟨some c,.thn (r.g::l),r.t⟩
  | none=>thnF nx l r.t
def nextF:Nat→Gt→Tp→Gv
 | 0,g,t=>⟨none,g,t⟩
 | _+1,.rd k,t=>⟨some ⟨false,k,0⟩,.rd k,t⟩
 | _+1,.wr k lo hi,t=>⟨some ⟨true,k,lo+t.below (hi - lo+1)⟩,.wr k lo hi,t.on (hi - lo+1)⟩
 | n+1,.lim g left,t=>if left=0 then⟨none,.lim g left,t⟩ else
   let r:=nextF n g t
   ⟨r.c,.lim r.g (left - 1),r.t⟩
 | n+1,.mix l,t=>mixF (nextF n) l.length l t
 | n+1,.thn l,t=>thnF (nextF n) l t
open Go.RowKit
theorem hideIt {p:Prop} (h:p):Hid p:=h
theorem ret_int {k:IntKind} {a b:Int} (h:a=b):Ending.returned (.int k a)=.returned (.int k b):=by rw[h]
theorem grown_set (W:World) (p:Addr) (v:Value):W.grownBy (W.setCell p v) (some p.block):=
 ⟨rfl,rfl,rfl,by simp[World.setCell],fun k _ hne=>by
  have:p.block≠k:=fun e=>hne (by rw[e])
  simp[World.setCell,Array.getElem?_modify,this]⟩
def InQ (w:World) (v:Value) (l:List Int):Prop:=∃a cap,v=.slice a l.length cap∧l.length≤cap∧(l= []∨∃b off,a=some ⟨b,off,none⟩∧b < w.heap.size∧∀i,(h:i < l.length)→w.cell? ⟨b,off+i,none⟩=some (.int .i64 l[i]))
structure TpAt (w : World) (base B o : Nat) (t : Tp) : Prop where
 row:∃a cap,w.cell? ⟨B,o,none⟩=some (.slice a t.l.length cap)∧t.l.length≤cap∧(t.l= []∨∃b off,a=some ⟨b,off,none⟩∧b < base∧∀i,(h:i < t.l.length)→w.cell? ⟨b,off+i,none⟩=some (.int .i64 t.l[i]))
 used:w.cell? ⟨B,o+1,none⟩=some (.int .i64 t.u)
 melt:w.frozen? ⟨B,o+1,none⟩=false
 lo:base≤B
theorem TpAt.lt {w:World} {base B o:Nat} {t:Tp} (h:TpAt w base B o t):B < w.heap.size:=World.block_lt_of_cell? w _ h.used
open Go.ChangeShapes Go.WideShapes Go.ChangeAt Go.RowKit
theorem list_of {α:Type} {p:Nat→α→Prop} (n:Nat) (h:∀i,i < n→∃x,p i x):∃l:List α,l.length=n∧∀i,(hi:i < l.length)→p i l[i]:=by
 induction n with
 | zero=>exact⟨[],rfl,fun i hi=>absurd hi (Nat.not_lt_zero _)⟩
 | succ n ih=>
  obtain⟨l,hl,hp⟩:=ih fun i hi=>h i (by omega)
  obtain⟨x,hx⟩:=h n (by omega);refine⟨l++ [x],by simp[hl],fun i hi=>?_⟩;by_cases e:i < l.length
  ·rw[List.getElem_append_left e];exact hp i e
  ·have:i=n:=by simp at hi;omega
   subst this;rw[List.getElem_append_right (by omega)];simp[hl];exact hx
section
variable {H : Type} {enc : TypeId × Value → H} {w : World} {base : Nat} {spare : Nat → Bool} {held : Bool}
theorem wgtAll_mem {P:Program} {e:TypeId} :∀{l:List (DataW H)} {d:DataW H},d∈l→∀n∈d.weights P e,n∈DataW.weightsAll P e l
 | x::l,d,hd,n,hn=>by
  simp only[DataW.weightsAll,List.mem_append];rcases List.mem_cons.1 hd with rfl | hd
  ·exact .inl hn
  ·exact .inr (wgtAll_mem hd n hn)
theorem row_of_trod {P:Program} {t e:TypeId} {c:Nat} {α:Type} {R:DataW H→List Value→α→Prop} (hu:P.underlying t=some (.slice e)) (hc:P.cellsOf e=c) (hc1:1≤c)
  (he:∀fuel vs d ps,DataW.trod enc P w base spare held fuel e vs=some (d,ps)→∃y,R d vs y) {fuel:Nat} {cs:List Value} {d:DataW H} {ps:List MemPlace} (h:DataW.trod enc P w base spare held fuel t cs=some (d,ps)):
  ∃(l:List α) (a:Option Addr) (cap:Nat),cs= [.slice a l.length cap]∧l.length≤cap∧l.length≤maxLen∧((∀n∈d.weights P t,n≤reachBytes)→l.length*P.bytesOf e≤reachBytes)∧
   (l= []∨∃b off,a=some ⟨b,off,none⟩∧b < w.heap.size∧∀k (hk:k < l.length),∃d' vs,R d' vs l[k]∧vs.length=c∧(∀j v,vs[j]?=some v→w.cell? ⟨b,off+k*c+j,none⟩=some v)∧∀n∈d'.weights P e,n∈d.weights P t):=by
 rcases DataW.trod_slice hu h with ⟨hcs,_⟩ | ⟨a',len,cap,elems,rest,n,_,hcs,hx,hb,hl,hm,hlen,hel,_,_⟩
 ·exact⟨[],none,0,hcs,Nat.le_refl _,Nat.zero_le _,fun _=>by simp,.inl rfl⟩
 ·injection hx with hd _
  subst hd;rw[hc] at hel;have hW:∀n,n∈(elems.map (·.1)).flatMap (fun d=>d.weights P e)→n∈DataW.weights P t (.slice (elems.map (·.1)) (rest.map (·.1))):=fun n hn=>by
   obtain⟨d,hd,hn⟩:=List.mem_flatMap.1 hn;simp only[DataW.weights,hu,List.mem_cons,List.mem_append];exact .inr (.inl (wgtAll_mem hd n hn))
  have hq:∀i,i < len→∃y:α,∃d' vs,R d' vs y∧vs.length=c∧(∀j v,vs[j]?=some v→w.cell? ((a'.add (i*c)).add j)=some v)∧∀n∈d'.weights P e,n∈DataW.weights P t (.slice (elems.map (·.1)) (rest.map (·.1))):=fun i hi=>by
   have h0:=hel i hi;rw[List.getElem?_eq_getElem (by omega)] at h0;obtain⟨vs,h1,h2⟩:=Option.bind_eq_some_iff.1 h0;obtain⟨_,hcl,h3⟩:=World.cells?_some h1;obtain⟨y,hy⟩:=he n vs _ _ (by rw[h2]);refine⟨y,_,vs,hy,hcl,fun j v hv=>?_,fun n hn=>hW n (List.mem_flatMap.2 ⟨_,List.mem_map.2 ⟨_,List.getElem_mem _,rfl⟩,hn⟩)⟩;have hj:j < vs.length:=(List.getElem?_eq_some_iff.1 hv).1;rw[h3 j (by omega),hv]
  obtain⟨l,hV,hp⟩:=list_of len hq;refine⟨l,some a',cap,by rw[hV];exact hcs,by omega,by omega,fun hw=>?_,?_⟩
  ·have:=hw ((elems.length+rest.length)*P.bytesOf e) (by simp[DataW.weights,hu]);refine Nat.le_trans (Nat.mul_le_mul_right _ ?_) this;omega
  ·by_cases h0:l= []
   ·exact .inl h0
   ·have hpos:0 < l.length:=List.length_pos_iff.2 h0;obtain⟨b,off,spot⟩:=a';obtain⟨_,vs,_,hvl,hs0,_⟩:=hp 0 hpos;have hs0:=hs0 0 vs[0] (List.getElem?_eq_getElem (by omega));have hspot:spot=none:=by
     have:=World.cell?_spot hs0;cases spot with
     | none=>rfl
     | some s=>simp[Addr.add] at this
    subst hspot;refine .inr ⟨b,off,rfl,?_,fun j hj=>?_⟩
    ·have:=World.block_lt_of_cell? w _ hs0
     simpa [Addr.add] using this
    ·obtain⟨d',vs,h1,h2,h3,h4⟩:=hp j hj;refine⟨d',vs,h1,h2,fun i v hv=>?_,h4⟩;have:=h3 i v hv
     rwa [Addr.add_lit,Addr.add_lit] at this
theorem cellsI:Tryz.prog.cellsOf 3=1:=by kernel_rfl
theorem int_wf {n:Int} (h:(Lit.int .i64 n).wf=true): -9223372036854775808≤n∧n < 9223372036854775808:=by
 have h2: -9223372036854775808≤n∧n≤9223372036854775807:=by simpa [Lit.wf,IntKind.min,IntKind.max,IntKind.signed,IntKind.bits] using h
 omega
theorem ints_of_Trod {a:Option Addr} {len cap:Nat} {d:DataW H} {ps:List MemPlace} (h:DataW.Trod enc Tryz.prog w base spare held 26 (.slice a len cap) d ps):∃l:List Int,len=l.length∧InQ w (.slice a len cap) l∧∀n∈l,-9223372036854775808≤n∧n < 9223372036854775808:=by
 obtain⟨fuel,hf⟩:=h;obtain⟨l,a',cap',hcs,h1,h2,_,h3⟩:=row_of_trod (R:=fun _ vs (x:Int)=>vs= [.int .i64 x]∧ -9223372036854775808≤x∧x < 9223372036854775808) Tryz.underlying26 cellsI (by decide) (fun fuel vs d ps h=>by obtain⟨i,e,_,hw⟩:=DataW.trod_int Tryz.underlying3 h;exact⟨i,e,int_wf hw⟩) hf;simp[Value.cells] at hcs;obtain⟨rfl,rfl,rfl⟩:=hcs;refine⟨l,rfl,⟨a,cap,rfl,h1,?_⟩,?_⟩
 ·rcases h3 with h3 | ⟨b,off,rfl,hb,hk⟩
  ·exact Or.inl h3
  ·refine Or.inr ⟨b,off,rfl,hb,fun i hi=>?_⟩;obtain⟨_,vs,⟨rfl,_⟩,_,hv,_⟩:=hk i hi
   simpa using hv 0 _ rfl
 ·intro n hn;obtain⟨i,hi,rfl⟩:=List.getElem_of_mem hn;rcases h3 with h3 | ⟨b,off,rfl,hb,hk⟩
  ·subst h3;cases hi
  ·obtain⟨_,vs,⟨rfl,h4⟩,_⟩:=hk i hi;exact h4
end
end Go.Proofs.YtjpklmighoondaaGreatDoor.Gn
namespace Go.Proofs.YtjpklmighoondaaGreatDoor.St
open Go.RowKit
theorem hideIt {p:Prop} (h:p):Hid p:=h
theorem belJ {w W w1:World} (h:Below w.heap.size w W) (hb:Below W.heap.size W w1):Below w.heap.size w w1:=h.trans (hb.mono h.size)
theorem belA {w W:World} (h:Below w.heap.size w W) (o:Obj):Below w.heap.size w (W.alloc o):=h.alloc h.size o
theorem ret_bool {a b:Bool} (h:a=b):Ending.returned (.bool a)=.returned (.bool b):=by rw[h]
theorem ret_int {a b:Int} (h:a=b):Ending.returned (.int .i64 a)=.returned (.int .i64 b):=by rw[h]
theorem info_parts' {t:TypeId} {z:Value} {s b:Nat} (h:(Tryz.prog.info? t).map (fun i=>(i.zero,i.size,i.bytes))=some (some z,s,b)):∃i,Tryz.prog.info? t=some i∧i.zero=some z∧i.size=s∧i.bytes=b:=by
 cases hi:Tryz.prog.info? t with
 | none=>simp[hi] at h
 | some i=>simp[hi] at h;exact⟨i,rfl,h.1,h.2.1,h.2.2⟩
end Go.Proofs.YtjpklmighoondaaGreatDoor.St
namespace Go.Proofs.YtjpklmighoondaaGreatDoor
open Go.ChangeShapes Go.WideShapes Go.ChangeAt Go.RowKit
theorem own:ownKnob Tryz.prog.godebug=none:=by kernel_rfl
theorem laidOut:laidOutB Tryz.prog=true:=by kernel_rfl
section
variable {H : Type} {enc : TypeId × Value → H} {w : World} {base : Nat} {spare : Nat → Bool} {held : Bool}
theorem trodAll_belowP {P:Program} (hl:laidOutB P=true) {W W':World} (hb:Below W.heap.size W W'):∀{ts:List TypeId} {vs:List Value} {ds:List (DataW H)} {p:List MemPlace},(∀t∈ts,P.readableRec t=true∧t < P.types.size)→DataW.TrodAll enc P W 0 (fun _=>true) true ts vs ds p→
  DataW.TrodAll enc P W' 0 (fun b=>decide (b < W.heap.size)) true ts vs ds p
 | [],vs,ds,p,_,h=>by obtain⟨rfl,rfl,rfl⟩:=trodAll_nil h;exact trodAll_mk0
 | t::ts,vs,ds,p,hr,h=>by
  obtain⟨v,vs',d,ds',p1,p2,rfl,rfl,rfl,h1,h2⟩:=trodAll_cons h;refine trodAll_cons_mk (Below.trod hl (hr t (List.mem_cons_self ..)).1 (hr t (List.mem_cons_self ..)).2 h1 hb ?_) (trodAll_belowP hl hb (fun u hu=>hr u (List.mem_cons_of_mem _ hu)) h2);obtain⟨m,h1⟩:=h1;exact DataW.trod_lt m _ _ _ h1
theorem one_int {fuel n:Nat} {cs:List Value} {x:Option (DataW H×List MemPlace)} (h:DataW.trod enc Tryz.prog w base spare held fuel 3 ((cs.drop n).take 1)=x) (hx:x.isSome=true):∃i,cs[n]?=some (.int .i64 i):=by
 obtain⟨y,rfl⟩:=Option.isSome_iff_exists.1 hx;obtain⟨i,e,_⟩:=DataW.trod_int Tryz.underlying3 h;refine⟨i,?_⟩;have h0:((cs.drop n).take 1)[0]?=some (.int .i64 i):=by rw[e];rfl
 simpa using h0
theorem one_bool {fuel n:Nat} {cs:List Value} {x:Option (DataW H×List MemPlace)} (h:DataW.trod enc Tryz.prog w base spare held fuel 4 ((cs.drop n).take 1)=x) (hx:x.isSome=true):∃i,cs[n]?=some (.bool i):=by
 obtain⟨y,rfl⟩:=Option.isSome_iff_exists.1 hx;obtain⟨i,e,_⟩:=DataW.trod_bool Tryz.underlying4 h;refine⟨i,?_⟩;have h0:((cs.drop n).take 1)[0]?=some (.bool i):=by rw[e];rfl
 simpa using h0
theorem cells3:Tryz.prog.cellsOf 3=1:=by kernel_rfl
theorem cells4:Tryz.prog.cellsOf 4=1:=by kernel_rfl
end
end Go.Proofs.YtjpklmighoondaaGreatDoor
namespace Go.Proofs.YtjpklmighoondaaGreatDoor
open Go.RowKit
structure Mvs where
 what:Int
 a:Int
 b:Int
 c:Int
open Go.ChangeShapes Go.WideShapes Go.ChangeAt Go.RowKit
section
variable {H : Type} {enc : TypeId × Value → H} {w : World} {base : Nat} {spare : Nat → Bool} {held : Bool}
theorem cellsSu:Tryz.prog.cellsOf 23=5:=by kernel_rfl
theorem setup_of_Trod {v:Value} {d:DataW H} {ps:List MemPlace} (hv:∃cs,v=.agg cs∧cs.size=Tryz.prog.cellsOf 23) (h:DataW.Trod enc Tryz.prog w base spare held 23 v d ps):∃(n k a t:Int) (b:Bool),v=.agg #[.int .i64 n,.int .i64 k,.int .i64 a,.int .i64 t,.bool b]:=by
 obtain⟨cs,rfl,_⟩:=hv;obtain⟨fuel,hf0⟩:=h;have h:DataW.trod enc Tryz.prog w base spare held fuel 23 cs.toList=some (d,ps):=by simpa [Value.cells] using hf0
 obtain⟨xs,n,_,_,hl,hlen,hf⟩:=DataW.trod_struct Tryz.underlying23 h;rw[cellsSu] at hl;have hsome:∀i,i < 5→xs[i]?.isSome=true:=fun i hi=>by
  rw[List.getElem?_eq_getElem (by rw[hlen];exact hi)];rfl
 have f0:DataW.trod enc Tryz.prog w base spare held n 3 ((cs.toList.drop 0).take (Tryz.prog.cellsOf 3))=xs[0]?:=hf 0 _ rfl;have f1:DataW.trod enc Tryz.prog w base spare held n 3 ((cs.toList.drop 1).take (Tryz.prog.cellsOf 3))=xs[1]?:=hf 1 _ rfl;have f2:DataW.trod enc Tryz.prog w base spare held n 3 ((cs.toList.drop 2).take (Tryz.prog.cellsOf 3))=xs[2]?:=hf 2 _ rfl;have f3:DataW.trod enc Tryz.prog w base spare held n 3 ((cs.toList.drop 3).take (Tryz.prog.cellsOf 3))=xs[3]?:=hf 3 _ rfl;have f4:DataW.trod enc Tryz.prog w base spare held n 4 ((cs.toList.drop 4).take (Tryz.prog.cellsOf 4))=xs[4]?:=hf 4 _ rfl;rw[cells3] at f0 f1 f2 f3;rw[cells4] at f4;obtain⟨i0,e0⟩:=one_int f0 (hsome 0 (by decide));obtain⟨i1,e1⟩:=one_int f1 (hsome 1 (by decide));obtain⟨i2,e2⟩:=one_int f2 (hsome 2 (by decide));obtain⟨i3,e3⟩:=one_int f3 (hsome 3 (by decide));obtain⟨i4,e4⟩:=one_bool f4 (hsome 4 (by decide));obtain⟨c0,c1,c2,c3,c4,hcs⟩:∃c0 c1 c2 c3 c4,cs.toList= [c0,c1,c2,c3,c4]:=by
  match cs.toList,hl with
  | [c0,c1,c2,c3,c4],_=>exact⟨c0,c1,c2,c3,c4,rfl⟩
 rw[hcs] at e0 e1 e2 e3 e4;simp at e0 e1 e2 e3 e4;have:cs=#[c0,c1,c2,c3,c4]:=by rw[←Array.toArray_toList (xs:=cs),hcs]
 exact⟨i0,i1,i2,i3,i4,by rw[this,e0,e1,e2,e3,e4]⟩
end
end Go.Proofs.YtjpklmighoondaaGreatDoor
namespace Go.Proofs.YtjpklmighoondaaGreatDoor.Gn
open Go.Shelf
def gn_lays101_ren:Go.Shelf.Ren:=⟨fun | 101=>220 | 208=>255 | 206=>236 | n=>n,fun | 9=>9 | 4=>4 | 3=>3 | n=>n,fun | n=>n⟩
theorem gn_lays101:Go.Proofs.Lays.n101 Tryz.prog gn_lays101_ren:= {
 mixed:=by kernel_rfl
 f101:=Tryz.func220.trans (congrArg some (by kernel_rfl))
 f206:=Tryz.func236.trans (congrArg some (by kernel_rfl))
 f208:=Tryz.func255.trans (congrArg some (by kernel_rfl))
 t3:=Tryz.underlying3
 a3:=Tryz.isAgg3
 z3:=Tryz.sizeOf3
 v3:=Tryz.zeroValue3
 t4:=Tryz.underlying4
 a4:=Tryz.isAgg4
 z4:=Tryz.sizeOf4
 v4:=Tryz.zeroValue4
 t9:=Tryz.underlying9
 a9:=Tryz.isAgg9
 z9:=Tryz.sizeOf9
 v9:=Tryz.zeroValue9}
def gn_lays152_ren:Go.Shelf.Ren:=⟨fun | 152=>216 | 137=>253 | 119=>254 | 224=>188 | 225=>187 | 217=>186 | 266=>238 | n=>n,fun | 9=>9 | 21=>21 | 3=>3 | 4=>4 | 5=>5 | 0=>0 | 46=>70 | n=>n,fun | n=>n⟩
theorem gn_lays152:Go.Proofs.Lays.n152 Tryz.prog gn_lays152_ren:= {
 mixed:=by kernel_rfl
 f119:=Tryz.func254.trans (congrArg some (by kernel_rfl))
 f137:=Tryz.func253.trans (congrArg some (by kernel_rfl))
 f152:=Tryz.func216.trans (congrArg some (by kernel_rfl))
 f217:=Tryz.func186.trans (congrArg some (by kernel_rfl))
 f224:=Tryz.func188.trans (congrArg some (by kernel_rfl))
 f225:=Tryz.func187.trans (congrArg some (by kernel_rfl))
 f266:=Tryz.func238.trans (congrArg some (by kernel_rfl))
 t0:=Tryz.underlying0
 a0:=Tryz.isAgg0
 z0:=Tryz.sizeOf0
 v0:=Tryz.zeroValue0
 t3:=Tryz.underlying3
 a3:=Tryz.isAgg3
 z3:=Tryz.sizeOf3
 v3:=Tryz.zeroValue3
 t4:=Tryz.underlying4
 a4:=Tryz.isAgg4
 z4:=Tryz.sizeOf4
 v4:=Tryz.zeroValue4
 t5:=Tryz.underlying5
 a5:=Tryz.isAgg5
 z5:=Tryz.sizeOf5
 v5:=Tryz.zeroValue5
 t9:=Tryz.underlying9
 a9:=Tryz.isAgg9
 z9:=Tryz.sizeOf9
 v9:=Tryz.zeroValue9
 t21:=Tryz.underlying21
 a21:=Tryz.isAgg21
 z21:=Tryz.sizeOf21
 v21:=Tryz.zeroValue21
 t46:=Tryz.underlying70
 a46:=Tryz.isAgg70
 z46:=Tryz.sizeOf70
 v46:=Tryz.zeroValue70}
def gn_lays153_ren:Go.Shelf.Ren:=⟨fun | 153=>145 | 152=>216 | 226=>217 | 227=>218 | 228=>219 | 137=>253 | 119=>254 | 224=>188 | 225=>187 | 217=>186 | 266=>238 | n=>n,fun | 9=>9 | 3=>3 | 4=>4 | 5=>5 | 21=>21 | 117=>321 | 116=>320 | 0=>0 | 46=>70 | 124=>363 | n=>n,fun | n=>n⟩
theorem gn_lays153:Go.Proofs.Lays.n153 Tryz.prog gn_lays153_ren:= {
 mixed:=by kernel_rfl
 f119:=Tryz.func254.trans (congrArg some (by kernel_rfl))
 f137:=Tryz.func253.trans (congrArg some (by kernel_rfl))
 f152:=Tryz.func216.trans (congrArg some (by kernel_rfl))
 f153:=Tryz.func145.trans (congrArg some (by kernel_rfl))
 f217:=Tryz.func186.trans (congrArg some (by kernel_rfl))
 f224:=Tryz.func188.trans (congrArg some (by kernel_rfl))
 f225:=Tryz.func187.trans (congrArg some (by kernel_rfl))
 f226:=Tryz.func217.trans (congrArg some (by kernel_rfl))
 f227:=Tryz.func218.trans (congrArg some (by kernel_rfl))
 f228:=Tryz.func219.trans (congrArg some (by kernel_rfl))
 f266:=Tryz.func238.trans (congrArg some (by kernel_rfl))
 t0:=Tryz.underlying0
 a0:=Tryz.isAgg0
 z0:=Tryz.sizeOf0
 v0:=Tryz.zeroValue0
 t3:=Tryz.underlying3
 a3:=Tryz.isAgg3
 z3:=Tryz.sizeOf3
 v3:=Tryz.zeroValue3
 t4:=Tryz.underlying4
 a4:=Tryz.isAgg4
 z4:=Tryz.sizeOf4
 v4:=Tryz.zeroValue4
 t5:=Tryz.underlying5
 a5:=Tryz.isAgg5
 z5:=Tryz.sizeOf5
 v5:=Tryz.zeroValue5
 t9:=Tryz.underlying9
 a9:=Tryz.isAgg9
 z9:=Tryz.sizeOf9
 v9:=Tryz.zeroValue9
 t21:=Tryz.underlying21
 a21:=Tryz.isAgg21
 z21:=Tryz.sizeOf21
 v21:=Tryz.zeroValue21
 t46:=Tryz.underlying70
 a46:=Tryz.isAgg70
 z46:=Tryz.sizeOf70
 v46:=Tryz.zeroValue70
 t116:=Tryz.underlying320
 a116:=Tryz.isAgg320
 z116:=Tryz.sizeOf320
 t117:=Tryz.underlying321
 a117:=Tryz.isAgg321
 z117:=Tryz.sizeOf321
 v117:=Tryz.zeroValue321
 t124:=Tryz.underlying363
 a124:=Tryz.isAgg363
 z124:=Tryz.sizeOf363
 v124:=Tryz.zeroValue363}
def gn_lays160_ren:Go.Shelf.Ren:=⟨fun | 160=>221 | 232=>257 | 231=>256 | 227=>218 | 234=>259 | 233=>258 | 236=>261 | 235=>260 | 228=>219 | 271=>279 | 151=>278 | 197=>178 | 120=>288 | 152=>216 | 260=>235 | 137=>253 | 119=>254 | 224=>188 | 225=>187 | 217=>186 | 266=>238 | n=>n,fun | 9=>9 | 4=>4 | 3=>3 | 5=>5 | 117=>321 | 116=>320 | 0=>0 | 124=>363 | 21=>21 | 105=>281 | 46=>70 | 119=>373 | 139=>376 | 138=>375 | n=>n,fun | 3=>4 | 4=>5 | n=>n⟩
theorem gn_lays160:Go.Proofs.Lays.n160 Tryz.prog gn_lays160_ren:= {
 mixed:=by kernel_rfl
 f119:=Tryz.func254.trans (congrArg some (by kernel_rfl))
 f120:=Tryz.func288.trans (congrArg some (by kernel_rfl))
 f137:=Tryz.func253.trans (congrArg some (by kernel_rfl))
 f151:=Tryz.func278.trans (congrArg some (by kernel_rfl))
 f152:=Tryz.func216.trans (congrArg some (by kernel_rfl))
 f160:=Tryz.func221.trans (congrArg some (by kernel_rfl))
 f197:=Tryz.func178.trans (congrArg some (by kernel_rfl))
 f217:=Tryz.func186.trans (congrArg some (by kernel_rfl))
 f224:=Tryz.func188.trans (congrArg some (by kernel_rfl))
 f225:=Tryz.func187.trans (congrArg some (by kernel_rfl))
 f227:=Tryz.func218.trans (congrArg some (by kernel_rfl))
 f228:=Tryz.func219.trans (congrArg some (by kernel_rfl))
 f231:=Tryz.func256.trans (congrArg some (by kernel_rfl))
 f232:=Tryz.func257.trans (congrArg some (by kernel_rfl))
 f233:=Tryz.func258.trans (congrArg some (by kernel_rfl))
 f234:=Tryz.func259.trans (congrArg some (by kernel_rfl))
 f235:=Tryz.func260.trans (congrArg some (by kernel_rfl))
 f236:=Tryz.func261.trans (congrArg some (by kernel_rfl))
 f260:=Tryz.func235.trans (congrArg some (by kernel_rfl))
 f266:=Tryz.func238.trans (congrArg some (by kernel_rfl))
 f271:=Tryz.func279.trans (congrArg some (by kernel_rfl))
 t0:=Tryz.underlying0
 a0:=Tryz.isAgg0
 z0:=Tryz.sizeOf0
 v0:=Tryz.zeroValue0
 t3:=Tryz.underlying3
 a3:=Tryz.isAgg3
 z3:=Tryz.sizeOf3
 v3:=Tryz.zeroValue3
 t4:=Tryz.underlying4
 a4:=Tryz.isAgg4
 z4:=Tryz.sizeOf4
 v4:=Tryz.zeroValue4
 t5:=Tryz.underlying5
 a5:=Tryz.isAgg5
 z5:=Tryz.sizeOf5
 v5:=Tryz.zeroValue5
 t9:=Tryz.underlying9
 a9:=Tryz.isAgg9
 z9:=Tryz.sizeOf9
 v9:=Tryz.zeroValue9
 t21:=Tryz.underlying21
 a21:=Tryz.isAgg21
 z21:=Tryz.sizeOf21
 v21:=Tryz.zeroValue21
 t46:=Tryz.underlying70
 a46:=Tryz.isAgg70
 z46:=Tryz.sizeOf70
 v46:=Tryz.zeroValue70
 t105:=Tryz.underlying281
 a105:=Tryz.isAgg281
 z105:=Tryz.sizeOf281
 v105:=Tryz.zeroValue281
 t116:=Tryz.underlying320
 a116:=Tryz.isAgg320
 z116:=Tryz.sizeOf320
 t117:=Tryz.underlying321
 a117:=Tryz.isAgg321
 z117:=Tryz.sizeOf321
 v117:=Tryz.zeroValue321
 t119:=Tryz.underlying373
 a119:=Tryz.isAgg373
 z119:=Tryz.sizeOf373
 t124:=Tryz.underlying363
 a124:=Tryz.isAgg363
 z124:=Tryz.sizeOf363
 v124:=Tryz.zeroValue363
 t138:=Tryz.underlying375
 a138:=Tryz.isAgg375
 z138:=Tryz.sizeOf375
 v138:=Tryz.zeroValue375
 t139:=Tryz.underlying376
 a139:=Tryz.isAgg376
 z139:=Tryz.sizeOf376
 v139:=Tryz.zeroValue376
 g3:=by kernel_rfl
 g4:=by kernel_rfl}
def gn_laysC172_ren:Go.Shelf.Ren:=⟨fun | 172=>147 | 244=>222 | 245=>223 | 247=>237 | 279=>262 | 280=>263 | 281=>264 | 282=>265 | 287=>272 | 316=>280 | 171=>26 | 205=>281 | 321=>285 | 322=>286 | 243=>64 | 246=>124 | 283=>173 | 284=>174 | 285=>175 | 286=>176 | 129=>199 | 317=>229 | 318=>230 | 319=>231 | 320=>232 | 337=>270 | 338=>271 | n=>n,fun | 9=>9 | 3=>3 | 75=>29 | 76=>138 | 4=>4 | 5=>5 | 167=>366 | 37=>134 | 0=>0 | 85=>284 | 2=>2 | 168=>367 | 53=>164 | 175=>377 | 46=>70 | 210=>385 | 127=>216 | 145=>396 | 143=>394 | 21=>21 | 171=>276 | 173=>279 | 212=>332 | 51=>300 | 20=>20 | 213=>333 | 232=>391 | 233=>392 | 80=>142 | n=>n,fun | 15=>6 | 16=>7 | 17=>3 | 18=>8 | 19=>9 | n=>n⟩
theorem gn_laysC172:Go.Proofs.LaysC.n172 Tryz.prog gn_laysC172_ren:= {
 mixed:=by kernel_rfl
 f129:=Tryz.func199.trans (congrArg some (by kernel_rfl))
 f171:=Tryz.func26.trans (congrArg some (by kernel_rfl))
 f172:=Tryz.func147.trans (congrArg some (by kernel_rfl))
 f205:=Tryz.func281.trans (congrArg some (by kernel_rfl))
 f243:=Tryz.func64.trans (congrArg some (by kernel_rfl))
 f244:=Tryz.func222.trans (congrArg some (by kernel_rfl))
 f245:=Tryz.func223.trans (congrArg some (by kernel_rfl))
 f246:=Tryz.func124.trans (congrArg some (by kernel_rfl))
 f247:=Tryz.func237.trans (congrArg some (by kernel_rfl))
 f279:=Tryz.func262.trans (congrArg some (by kernel_rfl))
 f280:=Tryz.func263.trans (congrArg some (by kernel_rfl))
 f281:=Tryz.func264.trans (congrArg some (by kernel_rfl))
 f282:=Tryz.func265.trans (congrArg some (by kernel_rfl))
 f283:=Tryz.func173.trans (congrArg some (by kernel_rfl))
 f284:=Tryz.func174.trans (congrArg some (by kernel_rfl))
 f285:=Tryz.func175.trans (congrArg some (by kernel_rfl))
 f286:=Tryz.func176.trans (congrArg some (by kernel_rfl))
 f287:=Tryz.func272.trans (congrArg some (by kernel_rfl))
 f316:=Tryz.func280.trans (congrArg some (by kernel_rfl))
 f317:=Tryz.func229.trans (congrArg some (by kernel_rfl))
 f318:=Tryz.func230.trans (congrArg some (by kernel_rfl))
 f319:=Tryz.func231.trans (congrArg some (by kernel_rfl))
 f320:=Tryz.func232.trans (congrArg some (by kernel_rfl))
 f321:=Tryz.func285.trans (congrArg some (by kernel_rfl))
 f322:=Tryz.func286.trans (congrArg some (by kernel_rfl))
 f337:=Tryz.func270.trans (congrArg some (by kernel_rfl))
 f338:=Tryz.func271.trans (congrArg some (by kernel_rfl))
 t0:=Tryz.underlying0
 a0:=Tryz.isAgg0
 z0:=Tryz.sizeOf0
 v0:=Tryz.zeroValue0
 t2:=Tryz.underlying2
 a2:=Tryz.isAgg2
 z2:=Tryz.sizeOf2
 v2:=Tryz.zeroValue2
 t3:=Tryz.underlying3
 a3:=Tryz.isAgg3
 z3:=Tryz.sizeOf3
 v3:=Tryz.zeroValue3
 t4:=Tryz.underlying4
 a4:=Tryz.isAgg4
 z4:=Tryz.sizeOf4
 v4:=Tryz.zeroValue4
 t5:=Tryz.underlying5
 a5:=Tryz.isAgg5
 z5:=Tryz.sizeOf5
 v5:=Tryz.zeroValue5
 t9:=Tryz.underlying9
 a9:=Tryz.isAgg9
 z9:=Tryz.sizeOf9
 v9:=Tryz.zeroValue9
 t20:=Tryz.underlying20
 a20:=Tryz.isAgg20
 z20:=Tryz.sizeOf20
 v20:=Tryz.zeroValue20
 t21:=Tryz.underlying21
 a21:=Tryz.isAgg21
 z21:=Tryz.sizeOf21
 v21:=Tryz.zeroValue21
 t37:=Tryz.underlying134
 a37:=Tryz.isAgg134
 z37:=Tryz.sizeOf134
 v37:=Tryz.zeroValue134
 t46:=Tryz.underlying70
 a46:=Tryz.isAgg70
 z46:=Tryz.sizeOf70
 v46:=Tryz.zeroValue70
 t51:=Tryz.underlying300
 a51:=Tryz.isAgg300
 z51:=Tryz.sizeOf300
 v51:=Tryz.zeroValue300
 t53:=Tryz.underlying164
 a53:=Tryz.isAgg164
 z53:=Tryz.sizeOf164
 v53:=Tryz.zeroValue164
 t75:=Tryz.underlying29
 a75:=Tryz.isAgg29
 z75:=Tryz.sizeOf29
 v75:=Tryz.zeroValue29
 t76:=Tryz.underlying138
 a76:=Tryz.isAgg138
 z76:=Tryz.sizeOf138
 v76:=Tryz.zeroValue138
 t85:=Tryz.underlying284
 a85:=Tryz.isAgg284
 z85:=Tryz.sizeOf284
 v85:=Tryz.zeroValue284
 t127:=Tryz.underlying216
 a127:=Tryz.isAgg216
 z127:=Tryz.sizeOf216
 v127:=Tryz.zeroValue216
 t143:=Tryz.underlying394
 a143:=Tryz.isAgg394
 z143:=Tryz.sizeOf394
 v143:=Tryz.zeroValue394
 t145:=Tryz.underlying396
 a145:=Tryz.isAgg396
 z145:=Tryz.sizeOf396
 v145:=Tryz.zeroValue396
 t167:=Tryz.underlying366
 a167:=Tryz.isAgg366
 z167:=Tryz.sizeOf366
 v167:=Tryz.zeroValue366
 t168:=Tryz.underlying367
 a168:=Tryz.isAgg367
 z168:=Tryz.sizeOf367
 v168:=Tryz.zeroValue367
 t171:=Tryz.underlying276
 a171:=Tryz.isAgg276
 z171:=Tryz.sizeOf276
 v171:=Tryz.zeroValue276
 t173:=Tryz.underlying279
 a173:=Tryz.isAgg279
 z173:=Tryz.sizeOf279
 v173:=Tryz.zeroValue279
 t175:=Tryz.underlying377
 a175:=Tryz.isAgg377
 z175:=Tryz.sizeOf377
 v175:=Tryz.zeroValue377
 t210:=Tryz.underlying385
 a210:=Tryz.isAgg385
 z210:=Tryz.sizeOf385
 v210:=Tryz.zeroValue385
 t212:=Tryz.underlying332
 a212:=Tryz.isAgg332
 z212:=Tryz.sizeOf332
 v212:=Tryz.zeroValue332
 t213:=Tryz.underlying333
 a213:=Tryz.isAgg333
 z213:=Tryz.sizeOf333
 t232:=Tryz.underlying391
 a232:=Tryz.isAgg391
 z232:=Tryz.sizeOf391
 v232:=Tryz.zeroValue391
 t233:=Tryz.underlying392
 a233:=Tryz.isAgg392
 z233:=Tryz.sizeOf392
 v233:=Tryz.zeroValue392
 g15:=by kernel_rfl
 g16:=by kernel_rfl
 g17:=by kernel_rfl
 g18:=by kernel_rfl
 g19:=by kernel_rfl
 t80:=Tryz.underlying142
 a80:=Tryz.isAgg142
 z80:=Tryz.sizeOf142
 v80:=Tryz.zeroValue142
 i0:=by kernel_rfl
 i2:=by kernel_rfl
 i3:=by kernel_rfl
 i4:=by kernel_rfl
 i5:=by kernel_rfl
 i9:=by kernel_rfl
 i20:=by kernel_rfl
 i21:=by kernel_rfl
 i37:=by kernel_rfl
 i46:=by kernel_rfl
 i51:=by kernel_rfl
 i53:=by kernel_rfl
 i75:=by kernel_rfl
 i76:=by kernel_rfl
 i80:=by kernel_rfl
 i85:=by kernel_rfl
 i127:=by kernel_rfl
 i143:=by kernel_rfl
 i145:=by kernel_rfl
 i167:=by kernel_rfl
 i168:=by kernel_rfl
 i171:=by kernel_rfl
 i173:=by kernel_rfl
 i175:=by kernel_rfl
 i210:=by kernel_rfl
 i212:=by kernel_rfl
 i232:=by kernel_rfl
 i233:=by kernel_rfl
 m15:=by kernel_rfl
 m16:=by kernel_rfl
 m17:=by kernel_rfl
 m18:=by kernel_rfl
 m19:=by kernel_rfl
 c0:=by kernel_rfl
 c2:=by kernel_rfl
 c3:=by kernel_rfl
 c4:=by kernel_rfl
 c5:=by kernel_rfl
 c9:=by kernel_rfl
 c20:=by kernel_rfl
 c21:=by kernel_rfl
 c37:=by kernel_rfl
 c46:=by kernel_rfl
 c51:=by kernel_rfl
 c53:=by kernel_rfl
 c75:=by kernel_rfl
 c76:=by kernel_rfl
 c80:=by kernel_rfl
 c85:=by kernel_rfl
 c127:=by kernel_rfl
 c143:=by kernel_rfl
 c145:=by kernel_rfl
 c167:=by kernel_rfl
 c168:=by kernel_rfl
 c171:=by kernel_rfl
 c173:=by kernel_rfl
 c175:=by kernel_rfl
 c210:=by kernel_rfl
 c212:=by kernel_rfl
 c213:=by kernel_rfl
 c232:=by kernel_rfl
 c233:=by kernel_rfl}
open Go.RowKit
theorem Tp.cur_in {t:Tp} (h:t.u < t.l.length):t.cur=t.l[t.u]:=by unfold Tp.cur;rw[dif_pos h]
theorem Tp.cur_out {t:Tp} (h:¬t.u < t.l.length):t.cur=0:=by unfold Tp.cur;rw[dif_neg h]
theorem wrapU (a:Int):IntKind.u64.wrap a=a%18446744073709551616:=by rw[IntKind.wrap_u64]
theorem Tp.val_wrap {t:Tp} {n:Int} (h0:0 < n) (h1:n < 9223372036854775808):wrap64 ((IntKind.u64.wrap t.cur).tmod n)=t.val n:=by
 unfold Tp.val;rw[wrapU];have h2:0≤t.cur%18446744073709551616:=Int.emod_nonneg _ (by omega);rw[Int.tmod_eq_emod_of_nonneg h2];have h3:=Int.emod_nonneg (t.cur%18446744073709551616) (show n≠0 by omega);have h4:=Int.emod_lt_of_pos (t.cur%18446744073709551616) h0;unfold wrap64;omega
def tpTurn (w:World) (B o:Nat) (t:Tp) (n:Int):World:=if n≤0 then w else w.setCell ⟨B,o+1,none⟩ (.int .i64 (t.u+1:Nat))
set_option maxHeartbeats 4000000 in
set_option maxRecDepth 100000 in
theorem tBelow_any (base B o:Nat) (n:Int) (t:Tp) (w:World) (h:TpAt w base B o t) (hu:t.u≤1000000000) (hn:n < 9223372036854775808):
  Calls Tryz.prog 46 #[.pointer (some ⟨B,o,none⟩),.int .i64 n] w fun e w'=>e=.returned (.int .i64 (t.below n))∧∃k,w'=tpTurn (w.drewN k) B o t n:=by
 obtain⟨⟨a,cap,c0,hcap,hr⟩,c1,hm,hlo⟩:=h;have HR:=hideIt hr;have hB:B < w.heap.size:=World.block_lt_of_cell? w _ c1;by_cases h0:n≤0
 ·have e1:t.below n=0:=by unfold Tp.below;rw[if_pos h0]
  have e2:∀w,tpTurn w B o t n=w:=fun w=>by unfold tpTurn;rw[if_pos h0]
  have H1:=hideIt e1;have H2:=hideIt e2;clear e1 e2 hr;go_enter Tryz.func46,Tryz.ntmps46
  go_wp2;go_ret;exact⟨ret_int H1.out.symm,0,(H2.out _).symm⟩
 ·have e1:t.below n=t.val n:=by unfold Tp.below;rw[if_neg h0]
  have e2:∀w,tpTurn w B o t n=w.setCell ⟨B,o+1,none⟩ (.int .i64 (t.u+1:Nat)):=fun w=>by unfold tpTurn;rw[if_neg h0]
  have H1:=hideIt e1;have H2:=hideIt e2;have HV:=hideIt (Tp.val_wrap (t:=t) (by omega:0 < n) hn);clear e1 e2 hr;by_cases hlt:t.u < t.l.length
  ·have hlt':(t.u:Int) < (t.l.length:Int):=by omega
   rcases HR.out with h0' | ⟨b,off,rfl,hb0,hc⟩
   ·rw[h0'] at hlt;exact absurd hlt (Nat.not_lt_zero _)
   have cc:=hc t.u hlt;rw[←Tp.cur_in hlt] at cc;have hbB:b≠B:=by omega
   have hb:b < w.heap.size:=by omega
   clear hc;generalize t.cur=x at*
   go_enter Tryz.func46,Tryz.ntmps46
   go_wp2_with fail
   go_quiet (fail)
   go_wp2_with fail
   go_quiet (fail)
   go_wp2;go_ret;exact⟨ret_int (by rw[H1.out];exact HV.out),_,(H2.out _).symm⟩
  ·have hlt':¬(t.u:Int) < (t.l.length:Int):=by omega
   have hx:=Tp.cur_out hlt;rw[hx] at HV;have HV':Hid (t.val n=0):=by
    have:=HV.out;rw[show IntKind.u64.wrap 0=0 by rw[wrapU];rfl,Int.zero_tmod] at this;have h:=this.symm;unfold wrap64 at h;have h2:t.val n=0:=by simpa using h
    exact h2
   clear hx HV;go_enter Tryz.func46,Tryz.ntmps46
   go_wp2_with fail
   go_quiet (fail)
   go_wp2;go_ret;exact⟨ret_int (by rw[H1.out];exact HV'.out.symm),_,(H2.out _).symm⟩
theorem frozen_setCell (w:World) (p q:Addr) (v:Value):(w.setCell p v).frozen? q=w.frozen? q:=by
 simp[go_sem]
theorem TpAt.other {w w':World} {base B o:Nat} {t:Tp} {row:Option Nat} (h:TpAt w base B o t) (hg:w.grownBy w' row) (hne:∀b,row=some b→b≠B∧base≤b):TpAt w' base B o t:=by
 have hlt:=h.lt;obtain⟨⟨a,cap,c0,hcap,hr⟩,c1,hm,hlo⟩:=h;have hbk:=hg.block B hlt (fun e=>(hne B e.symm).1 rfl);refine⟨⟨a,cap,(World.cell?_of_block (a:=⟨B,o,none⟩) hbk).trans c0,hcap,?_⟩,(World.cell?_of_block (a:=⟨B,o+1,none⟩) hbk).trans c1,(World.frozen?_of_block (a:=⟨B,o+1,none⟩) hbk).trans hm,hlo⟩;refine hr.imp id fun⟨b,off,e,hb,hcc⟩=>⟨b,off,e,hb,fun i hi=>?_⟩
 have hbk2:=hg.block b (by omega) (fun e=>by have:=(hne b e.symm).2;omega);exact(World.cell?_of_block (a:=⟨b,off+i,none⟩) hbk2).trans (hcc i hi)
theorem grown_drewN (w:World) (k:Nat):w.grownBy (w.drewN k) none:=⟨rfl,rfl,rfl,Nat.le_refl _,fun _ _ _=>rfl⟩
theorem TpAt.drewN {w:World} {base B o:Nat} {t:Tp} (h:TpAt w base B o t) (k:Nat):TpAt (w.drewN k) base B o t:=h.other (grown_drewN w k) (fun _ e=>by cases e)
theorem TpAt.turn {w:World} {base B o:Nat} {t:Tp} (h:TpAt w base B o t) (n:Int) (k:Nat):TpAt (tpTurn (w.drewN k) B o t n) base B o (t.on n):=by
 unfold tpTurn Tp.on
 split
 ·exact h.drewN k
 ·have hlt:=h.lt;obtain⟨⟨a,cap,c0,hcap,hr⟩,c1,hm,hlo⟩:=h;refine⟨⟨a,cap,by simpa [go_sem] using c0,hcap,hr.imp id fun⟨b,off,e,hb,hcc⟩=>⟨b,off,e,hb,fun i hi=>?_⟩⟩,World.cell?_setCell_same' _ _ _ (by rw[show (w.drewN k).cell? ⟨B,o+1,none⟩=_ from c1];rfl),by rw[frozen_setCell];exact hm,hlo⟩;have:=hcc i hi;exact(World.cell?_setCell_other _ _ _ _ (by intro e;simp only[Addr.mk.injEq] at e;omega)).trans this
theorem grown_turn (w:World) (B o:Nat) (t:Tp) (n:Int) (k:Nat):w.grownBy (tpTurn (w.drewN k) B o t n) (some B):=by
 unfold tpTurn
 split
 ·exact⟨rfl,rfl,rfl,Nat.le_refl _,fun _ _ _=>rfl⟩
 ·have:=grown_set (w.drewN k) ⟨B,o+1,none⟩ (.int .i64 (t.u+1:Nat));exact⟨rfl,rfl,rfl,by simp[World.setCell,World.drewN],fun j hj hne=>this.block j (by simpa [World.drewN] using hj) hne⟩
end Go.Proofs.YtjpklmighoondaaGreatDoor.Gn
