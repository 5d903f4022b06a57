/-
  A number of 64 bits, walked.
  Objects in plain Lean: which calls an object knows, its state at first, what a call makes of a state, and what it tells.
  A state in memory that is one's own: a row of numbers, from some block on, that may be written into.
  Which calls an object knows, and its state at first: the program's and the document's, walked.
-/
import Derived.Test.YtjpklmighoondaaGreatDoorGnUZ
import Derived.Lib.LaidTab
import Derived.Lib.ItoaNum
import Derived.Lib.ParseIntBTie
import Derived.WalkKit
import Derived.Laws.AppendOwn
import Derived.Laws.IdiomCopy
import Derived.Laws.Rows
import Derived.Sort.Row
import Derived.Maps.AppendAt
import Derived.Maps.Range
import Derived.Maps.RangeWalk
import Derived.Deep.Draws
import Derived.Test.YtjpklmighoondaaGreatDoorProg
import Derived.WalkSpells
import Derived.WalkLawsBesides
import Derived.Deep.RegionWith
import Derived.LoopTactic
namespace Go.Proofs.YtjpklmighoondaaGreatDoor.Gn
open Go.RowKit Go.Shelf
def numD (t:BtP):Option Int:=match Lib.atoiAll t with
 | .ok n=>if Lib.itoa n=t then some n else none
 | _=>none
def PowT (w : World) : Prop := Lib.TabIs Tryz.prog w "internal/strconv.uint64pow10" .u64 Lib.pow10Tab
noncomputable def gPow : Nat := (Tryz.prog.globalNamed "internal/strconv.uint64pow10").getD 0
theorem gPow_eq : Tryz.prog.globalNamed "internal/strconv.uint64pow10" = some gPow := by kernel_rfl
theorem PowT.lt {w:World} (h:PowT w):gPow < w.heap.size:=(var_blk (w':=w) gPow_eq h).1
theorem PowT.fr {w w':World} {X:List Nat} (h:PowT w) (hg:Fr X w w') (hX:gPow∉X):PowT w':=(var_blk gPow_eq h).2 (hg.block _ h.lt hX)
def numDV (t:Bt):Value:=match numD t with
 | some n=>.tuple #[.int .i64 n,.bool true]
 | none=>.tuple #[.int .i64 0,.bool false]
theorem grow_below (w:World) (k:Nat) (os:Array Obj):Below w.heap.size w (Go.Sort.grow (w.drewN k) os):=by
 refine⟨rfl,rfl,rfl,by simp[Go.Sort.grow,World.drewN],fun k hk=>?_⟩;simp only[Go.Sort.grow,World.drewN];rw[Array.getElem?_append_left hk]
theorem pint_call (t:Bt) (w:World) (ht:t.length≤3000) (hv:ErrV w):Calls Tryz.prog 181 #[.string (ba t),.int .i64 10,.int .i64 64] w fun e w'=>Fr [] w w'∧
  ((∃v,Lib.atoiAll t=.ok v∧e=.returned (.tuple #[.int .i64 v,.nilIface]))∨((∀v,Lib.atoiAll t≠.ok v)∧∃(n:Int) (T:TypeId) (x:Value),e=.returned (.tuple #[.int .i64 n,.iface T x]))):=by
 obtain⟨⟨tp,p,h1⟩,⟨tq,q,h2⟩⟩:=hv;cases h:Lib.atoiAll t with
 | ok v=>
  have hB:Lib.parseIntB 64 (ba t).data.toList=.ok v:=by rw[ba_data,Lib.parseIntB_64];exact h
  have:=Any.strconv_ParseInt_10_at64_ok nu_laysC174 (ba t) (by rw[ba_size];omega) v hB w;refine this.mono ?_;rintro e w' ⟨rfl,rfl | ⟨n,rfl⟩⟩
  ·exact⟨Fr.refl _ _,.inl ⟨v,rfl,rfl⟩⟩
  ·exact⟨fr_below (Lib.bytesWorld_below _ _ _) _,.inl ⟨v,rfl,rfl⟩⟩
 | «syntax» =>
  have:=Any.strconv_ParseInt_10_at64_syntax_var nu_laysC174 (ba t) (by rw[ba_size];omega) (by rw[ba_data,Lib.parseIntB_64];exact h) tq q w h2;refine this.mono ?_;rintro e w' ⟨N,rfl,_,_,hb⟩;exact⟨fr_below hb _,.inr ⟨fun v h=>by(cases h),_,_,_,rfl⟩⟩
 | range=>
  have:=Any.strconv_ParseInt_10_at64_range_var nu_laysC174 (ba t) (by rw[ba_size];omega) (by rw[ba_data,Lib.parseIntB_64];exact h) tp p w h1;refine this.mono ?_;rintro e w' ⟨N,rfl,_,_,hb⟩;exact⟨fr_below hb _,.inr ⟨fun v h=>by(cases h),_,_,_,rfl⟩⟩
theorem fint_call (v:Int) (w:World) (h0: -9223372036854775808≤v) (h1:v≤9223372036854775807) (hp:PowT w):Calls Tryz.prog 182 #[.int .i64 v,.int .i64 10] w fun e w'=>e=.returned (.string (ba (Lib.itoa v)))∧Fr [] w w':=by
 refine(Any.strconv_FormatInt_10 nu_laysM173 v h0 h1 w hp).mono ?_;rintro e w' ⟨rfl,k,os,rfl⟩;exact⟨rfl,fr_below (grow_below _ _ _) _⟩
set_option maxHeartbeats 4000000 in
theorem number_dany (t:Bt) (w:World) (ht:t.length≤3000) (hv:ErrV w) (hp:PowT w):Calls Tryz.prog 129 #[.string (ba t)] w fun e w'=>e=.returned (numDV t)∧Fr [] w w':=by
 have HI:=hideIt (pint_call t w ht hv);have HP:=hideIt hp;have HF:=hideIt fint_call;clear hv hp;go_enter Tryz.func129,Tryz.ntmps129
 go_wp2_with fail
 refine HI.out.mono ?_;rintro x w1 ⟨hf1,⟨v,h,rfl⟩ | ⟨h,n,T,x,rfl⟩⟩
 ·have hb:=Lib.atoiAll_bounds h;have HF1:=hideIt hf1;have HP1:=hideIt (HP.out.fr hf1 (by simp));clear hf1;by_cases hi:Lib.itoa v=t
  ·have HN:Hid (numDV t=.tuple #[.int .i64 v,.bool true]):=hideIt (by unfold numDV numD;rw[h];simp only;rw[if_pos hi]);have he:((ba (Lib.itoa v)).toList==(ba t).toList)=true:=by rw[hi];exact beq_self_eq_true _
   clear h hi;go_wp2_with fail
   refine(HF.out v w1 hb.1 hb.2 HP1.out).mono ?_;rintro x w2 ⟨rfl,hf2⟩;have HF2:=hideIt (HF1.out.trans hf2);clear hf2;go_wp2;go_ret2;exact⟨by rw[HN.out];rfl,HF2.out⟩
  ·have HN:Hid (numDV t=.tuple #[.int .i64 0,.bool false]):=hideIt (by unfold numDV numD;rw[h];simp only;rw[if_neg hi]);have he:=ba_ne hi;clear h hi;go_wp2_with fail
   refine(HF.out v w1 hb.1 hb.2 HP1.out).mono ?_;rintro x w2 ⟨rfl,hf2⟩;have HF2:=hideIt (HF1.out.trans hf2);clear hf2;go_wp2;go_ret2;exact⟨by rw[HN.out];rfl,HF2.out⟩
 ·have HN:Hid (numDV t=.tuple #[.int .i64 0,.bool false]):=hideIt (by
   unfold numDV numD;cases k:Lib.atoiAll t with
   | ok v=>exact absurd k (h v)
   | «syntax» =>rfl
   | range=>rfl)
  have HF1:=hideIt hf1;clear hf1 h;go_wp2;go_ret2;exact⟨by rw[HN.out];rfl,HF1.out⟩
end Go.Proofs.YtjpklmighoondaaGreatDoor.Gn
namespace Go.Proofs.YtjpklmighoondaaGreatDoor
open Go.RowKit
def oneB (o:Int):Bool:=o==1||o==2||o==6
def knowsB (o k:Int):Bool:=
 (o==1&&(k==1||k==2||k==3))||(o==2&&(k==4||k==5))||(o==3&&(k==6||k==7||k==8))||
 (o==4&&(k==9||k==10))||(o==5&&(k==9||k==10))||(o==6&&(k==11||k==12))
def startL (o:Int):List Int:=if oneB o then [0] else []
def placeOf (st:List Int) (a:Int):Nat:=st.countP (· < a)
def regM (x k a b:Int):Int×Int:=
 if k=2 then (a,0) else if k=3 then (if x=a then (b,1) else (x,0)) else (x,x)
def cntM (x k a:Int):Int×Int:=
 if k=4 then (wrap64 (x+a),wrap64 (x+a)) else (x,x)
def setM (st:List Int) (k a:Int):List Int×Int:=
 if k=6∧st.contains a=false then (st.take (placeOf st a)++a::st.drop (placeOf st a),1)
 else if k=7∧st.contains a=true then (st.take (placeOf st a)++st.drop (placeOf st a+1),1)
 else if k=8∧st.contains a=true then (st,1) else (st,0)
def queM (st:List Int) (k a:Int):List Int×Int:=
 if k=9 then (st++ [a],0) else if st= [] then (st,-1) else (st.drop 1,st.headD 0)
def staM (st:List Int) (k a:Int):List Int×Int:=
 if k=9 then (st++ [a],0) else if st= [] then (st,-1) else (st.take (st.length - 1),st.getD (st.length - 1) 0)
def mutM (x k:Int):Option Int:=
 if k=12 then (if x=1 then some 0 else none) else (if x=0 then some 1 else none)
def stepM (o:Int) (st:List Int) (k a b:Int):Option (List Int×Int):=
 if knowsB o k=false∨(oneB o=true∧st.length≠1) then none
 else if o=1 then some ([(regM (st.headD 0) k a b).1],(regM (st.headD 0) k a b).2)
 else if o=2 then some ([(cntM (st.headD 0) k a).1],(cntM (st.headD 0) k a).2)
 else if o=3 then some (setM st k a)
 else if o=4 then some (queM st k a)
 else if o=5 then some (staM st k a)
 else (mutM (st.headD 0) k).map fun y=>([y],0)
open Go.RowKit
def RowAt (w:World) (base:Nat) (v:Value) (st:List Int):Prop:=
 (v=.slice none 0 0∧st= [])∨
 ∃g off cap cur,v=.slice (some ⟨g,off,none⟩) st.length cap∧base≤g∧w.heap[g]?=some (.cells cur 3 (0,0))∧st.length≤cap∧off+cap≤cur.size∧cap≤maxLen∧
  ∀j,(hj:j < st.length)→w.cell? ⟨g,off+j,none⟩=some (.int .i64 st[j])
theorem lt_of_heap {w:World} {g:Nat} {o:Obj} (h:w.heap[g]?=some o):g < w.heap.size:=by
 rcases Nat.lt_or_ge g w.heap.size with hlt | hge
 ·exact hlt
 ·rw[Array.getElem?_eq_none hge] at h;cases h
theorem rowAt_nil (w:World) (base:Nat):RowAt w base (.slice none 0 0) []:=.inl ⟨rfl,rfl⟩
theorem RowAt.lt {w:World} {base:Nat} {v:Value} {st:List Int} (h:RowAt w base v st):∀k,v.ownBlock=some k→base≤k∧k < w.heap.size:=by
 intro k hk;rcases h with ⟨rfl,_⟩ | ⟨g,off,cap,cur,rfl,hb,hg,_⟩
 ·cases hk
 ·obtain rfl:g=k:=by simpa [Value.ownBlock] using hk
  exact⟨hb,lt_of_heap hg⟩
theorem RowAt.kept {w w':World} {base:Nat} {v:Value} {st:List Int} {row:Option Nat} (h:RowAt w base v st) (hg:w.grownBy w' row) (hne:v.ownBlock=none∨v.ownBlock≠row):RowAt w' base v st:=by
 rcases h with h | ⟨g,off,cap,cur,rfl,hb,hh,h1,h2,h4,h5⟩
 ·exact .inl h
 ·have hne':some g≠row:=by
   rcases hne with h | h
   ·cases h
   ·exact h
  have e:=hg.block g (lt_of_heap hh) hne';exact .inr ⟨g,off,cap,cur,rfl,hb,e.trans hh,h1,h2,h4,fun j hj=>(World.cell?_of_block (a:=⟨g,off+j,none⟩) e).trans (h5 j hj)⟩
theorem RowAt.base {w:World} {base base':Nat} {v:Value} {st:List Int} (h:RowAt w base v st) (hb:base'≤base):RowAt w base' v st:=by
 rcases h with h | ⟨g,off,cap,cur,rfl,h0,h⟩
 ·exact .inl h
 ·exact .inr ⟨g,off,cap,cur,rfl,by omega,h⟩
theorem rowAt_owns {w:World} {base:Nat} {v:Value} {st:List Int} (h:w.ownsRow base 3 1 v st.length (st.map (Value.int .i64))):RowAt w base v st:=by
 obtain⟨_,⟨rfl,h0⟩ | ⟨g,cap,cur,rfl,hb,hg,h1,h2,h3,h4⟩⟩:=h
 ·exact .inl ⟨rfl,List.length_eq_zero_iff.1 h0⟩
 ·refine .inr ⟨g,0,cap,cur,rfl,hb,hg,h1,by omega,h2,fun j hj=>?_⟩;rw[cell_of_row w g _ cur 3 (0,0) hg,Nat.zero_add];have:=congrArg (·[j]?) h4;simp only[Nat.mul_one] at this;rw[List.getElem?_take_of_lt hj,List.getElem?_map,List.getElem?_eq_getElem hj] at this
  simpa using this
theorem grown_setCell (w:World) (a:Addr) (u:Value):w.grownBy (w.setCell a u) (some a.block):=
 ⟨rfl,rfl,rfl,by simp[World.setCell],fun k _ hne=>by
  have:a.block≠k:=fun e=>hne (by rw[e])
  simp[World.setCell,Array.getElem?_modify,this]⟩
theorem grown_refl (w:World) (row:Option Nat):w.grownBy w row:=⟨rfl,rfl,rfl,Nat.le_refl _,fun _ _ _=>rfl⟩
theorem grown_drew (w:World) (row:Option Nat):w.grownBy w.drew row:=⟨rfl,rfl,rfl,Nat.le_refl _,fun _ _ _=>rfl⟩
theorem grown_drewN (w:World) (n:Nat) (row:Option Nat):w.grownBy (w.drewN n) row:=⟨rfl,rfl,rfl,Nat.le_refl _,fun _ _ _=>rfl⟩
theorem grown_setCells (b:Nat):∀(vs:List Value) (o:Nat) (w:World),w.grownBy (w.setCells b o vs) (some b)
 | [],_,w=>grown_refl w _
 | v::r,o,w=>(grown_setCell w ⟨b,o,none⟩ v).trans (grown_setCells b r (o+1) _)
theorem heap_setCell {w:World} {g:Nat} {cur:Array Value} {t:TypeId} {fr:Nat×Nat} (h:w.heap[g]?=some (.cells cur t fr)) (o:Nat) (u:Value):∃cur',(w.setCell ⟨g,o,none⟩ u).heap[g]?=some (.cells cur' t fr)∧cur'.size=cur.size:=by
 refine⟨cur.setIfInBounds o u,?_,by simp⟩;simp[World.setCell,Array.getElem?_modify,h]
theorem heap_setCells {g:Nat} {t:TypeId} {fr:Nat×Nat} :∀(vs:List Value) (o:Nat) (w:World) (cur:Array Value),w.heap[g]?=some (.cells cur t fr)→∃cur',(w.setCells g o vs).heap[g]?=some (.cells cur' t fr)∧cur'.size=cur.size
 | [],_,_,cur,h=>⟨cur,h,rfl⟩
 | v::r,o,w,cur,h=>by
  obtain⟨c1,h1,e1⟩:=heap_setCell h o v;obtain⟨c2,h2,e2⟩:=heap_setCells r (o+1) _ c1 h1;exact⟨c2,h2,e2.trans e1⟩
section
variable {w : World} {g : Nat} {cur : Array Value}
theorem some_of_heap (h:w.heap[g]?=some (.cells cur 3 (0,0))) {i:Nat} (hi:i < cur.size):(w.cell? ⟨g,i,none⟩).isSome=true:=by
 rw[cell_of_row w g i cur 3 (0,0) h,Array.getElem?_eq_getElem hi];rfl
theorem unfrozen_of_heap (h:w.heap[g]?=some (.cells cur 3 (0,0))) (i:Nat):w.frozen? ⟨g,i,none⟩=false:=frozen_of_row w g i cur 3 h
theorem shape_of_heap (h:w.heap[g]?=some (.cells cur 3 (0,0))):w.shape? g=some (3,cur.size):=by simp[World.shape?,h]
end
theorem rowAt_put {w':World} {base g off cap:Nat} {cur:Array Value} {st:List Int} (hb:base≤g) (hg':∃cur',w'.heap[g]?=some (.cells cur' 3 (0,0))∧cur'.size=cur.size)
  (h1:st.length≤cap) (h2:off+cap≤cur.size) (h4:cap≤maxLen) (h5:∀j,(hj:j < st.length)→w'.cell? ⟨g,off+j,none⟩=some (.int .i64 st[j])) {n:Nat} (hn:n=st.length):RowAt w' base (.slice (some ⟨g,off,none⟩) n cap) st:=by
 subst hn;obtain⟨cur',e1,e2⟩:=hg';exact .inr ⟨g,off,cap,cur',rfl,hb,e1,h1,by omega,h4,h5⟩
end Go.Proofs.YtjpklmighoondaaGreatDoor
namespace Go.Proofs.YtjpklmighoondaaGreatDoor
open Go.RowKit
theorem hideIt {p:Prop} (h:p):Hid p:=h
def KnownAt (w:World):Prop:=∀o k:Nat,o < 7→k < 13→w.cell? ⟨0,o*13+k,none⟩=some (.bool (knowsB o k))
theorem KnownAt.below {w w':World} {n:Nat} (h:KnownAt w) (hn:0 < n) (hb:Below n w w'):KnownAt w':=fun o k ho hk=>
 (hb.cell (p:=⟨0,o*13+k,none⟩) hn).trans (h o k ho hk)
theorem knowsB_out {o k:Int} (h:o < 0∨7≤o∨k < 0∨12 < k):knowsB o k=false:=by
 unfold knowsB;rcases h with h | h | h | h
 ·have:o≠1∧o≠2∧o≠3∧o≠4∧o≠5∧o≠6:=by omega
  simp[this]
 ·have:o≠1∧o≠2∧o≠3∧o≠4∧o≠5∧o≠6:=by omega
  simp[this]
 ·have:k≠1∧k≠2∧k≠3∧k≠4∧k≠5∧k≠6∧k≠7∧k≠8∧k≠9∧k≠10∧k≠11∧k≠12:=by omega
  simp[this]
 ·have:k≠1∧k≠2∧k≠3∧k≠4∧k≠5∧k≠6∧k≠7∧k≠8∧k≠9∧k≠10∧k≠11∧k≠12:=by omega
  simp[this]
set_option maxHeartbeats 400000 in
theorem knows_in (o k:Nat) (w:World) (ho:o < 7) (hk:k < 13) (hc:w.cell? ⟨0,o*13+k,none⟩=some (.bool (knowsB o k))):
  Calls Tryz.prog 81 #[.int .i64 o,.int .i64 k] w fun e w'=>e=.returned (.bool (knowsB o k))∧w'=w:=by
 have h1:decide ((o:Int) < 0)=false:=by simp
 have h2:decide (7≤(o:Int))=false:=by simp;omega
 have h3:decide ((k:Int) < 0)=false:=by simp
 have h4:decide (12 < (k:Int))=false:=by simp;omega
 have i1:(0:Int)≤(o:Int):=by omega
 have i2:(o:Int) < 7:=by omega
 have i3:(0:Int)≤(k:Int):=by omega
 have i4:(k:Int) < 13:=by omega
 go_enter Tryz.func81,Tryz.ntmps81
 go_wp2;go_ret;exact⟨rfl,rfl⟩
set_option maxHeartbeats 400000 in
theorem knows_out (o k:Int) (w:World) (h:o < 0∨7≤o∨k < 0∨12 < k):
  Calls Tryz.prog 81 #[.int .i64 o,.int .i64 k] w fun e w'=>e=.returned (.bool false)∧w'=w:=by
 by_cases h1:o < 0
 ·go_enter Tryz.func81,Tryz.ntmps81
  go_wp2;go_ret;exact⟨rfl,rfl⟩
 ·by_cases h2:7≤o
  ·go_enter Tryz.func81,Tryz.ntmps81
   go_wp2;go_ret;exact⟨rfl,rfl⟩
  ·by_cases h3:k < 0
   ·clear h;go_enter Tryz.func81,Tryz.ntmps81
    go_wp2;go_ret;exact⟨rfl,rfl⟩
   ·have h4:12 < k:=by omega
    clear h;go_enter Tryz.func81,Tryz.ntmps81
    go_wp2;go_ret;exact⟨rfl,rfl⟩
theorem knows_any (o k:Int) (w:World) (hK:KnownAt w):
  Calls Tryz.prog 81 #[.int .i64 o,.int .i64 k] w fun e w'=>e=.returned (.bool (knowsB o k))∧w'=w:=by
 by_cases h:o < 0∨7≤o∨k < 0∨12 < k
 ·rw[knowsB_out h];exact knows_out o k w h
 ·obtain⟨o',rfl⟩:∃n:Nat,o=n:=⟨o.toNat,by omega⟩;obtain⟨k',rfl⟩:∃n:Nat,k=n:=⟨k.toNat,by omega⟩;exact knows_in o' k' w (by omega) (by omega) (hK o' k' (by omega) (by omega))
set_option maxHeartbeats 400000 in
theorem one_any (o:Int) (w:World):Calls Tryz.prog 204 #[.int .i64 o] w fun e w'=>e=.returned (.bool (oneB o))∧w'=w:=by
 go_enter Tryz.func204,Tryz.ntmps204
 go_wp2;all_goals (go_ret;exact⟨by simp_all [oneB],rfl⟩)
theorem rowAt_zero (w:World):RowAt (w.alloc (.cells #[.int .i64 0] 3)) w.heap.size (.slice (some ⟨w.heap.size,0,none⟩) 1 1) [0]:=
 .inr ⟨w.heap.size,0,1,#[.int .i64 0],rfl,Nat.le_refl _,heap_alloc_new w _,Nat.le_refl _,Nat.le_refl _,by decide,fun j hj=>by
  obtain rfl:j=0:=by simp at hj;omega
  simp⟩
def startV (w:World) (o:Int):Value:=if oneB o then .slice (some ⟨w.heap.size,0,none⟩) 1 1 else .slice none 0 0
def startW (w:World) (o:Int):World:=if oneB o then w.alloc (.cells #[.int .i64 0] 3) else w
set_option maxHeartbeats 400000 in
theorem start_any (o:Int) (w:World):Calls Tryz.prog 140 #[.int .i64 o] w fun e w'=>e=.returned (startV w o)∧w'=startW w o:=by
 unfold startV startW;cases h:oneB o
 ·go_enter Tryz.func140,Tryz.ntmps140
  go_wp2_with (go_at_call 204;refine(one_any _ _).mono ?_;rintro e w' ⟨rfl,rfl⟩;rw[h])
  go_ret;exact⟨rfl,rfl⟩
 ·go_enter Tryz.func140,Tryz.ntmps140
  go_wp2_with (go_at_call 204;refine(one_any _ _).mono ?_;rintro e w' ⟨rfl,rfl⟩;rw[h])
  go_ret;exact⟨rfl,rfl⟩
theorem startAt (w:World) (o:Int):RowAt (startW w o) w.heap.size (startV w o) (startL o):=by
 unfold startV startW startL;cases oneB o
 ·exact rowAt_nil _ _
 ·exact rowAt_zero w
theorem startGrown (w:World) (o:Int):w.grownBy (startW w o) none:=by
 unfold startW;cases oneB o
 ·exact grown_refl _ _
 ·exact World.grownBy_alloc _ _ _
def HasInts (w:World) (v:Value) (st:List Int):Prop:=
 ∃a cap,v=.slice a st.length cap∧st.length≤cap∧cap≤maxLen∧(a=none→cap=0)∧(st= []∨∃b off,a=some ⟨b,off,none⟩∧∀j,(hj:j < st.length)→w.cell? ⟨b,off+j,none⟩=some (.int .i64 st[j]))
theorem RowAt.has {w:World} {base:Nat} {v:Value} {st:List Int} (h:RowAt w base v st):HasInts w v st:=by
 rcases h with ⟨rfl,rfl⟩ | ⟨g,off,cap,cur,rfl,_,_,h1,_,h2,h3⟩
 ·exact⟨none,0,rfl,by decide,by decide,fun _=>rfl,.inl rfl⟩
 ·exact⟨_,cap,rfl,h1,h2,fun e=>(by cases e),.inr ⟨g,off,rfl,h3⟩⟩
theorem HasInts.below {w w':World} {v:Value} {st:List Int} (h:HasInts w v st) (hb:Below w.heap.size w w'):HasInts w' v st:=by
 obtain⟨a,cap,rfl,hm,hm',hn,h⟩:=h;refine⟨a,cap,rfl,hm,hm',hn,?_⟩;rcases h with h | ⟨b,off,rfl,h⟩
 ·exact .inl h
 ·exact .inr ⟨b,off,rfl,fun j hj=>(hb.cell (World.block_lt_of_cell? w _ (h j hj))).trans (h j hj)⟩
theorem below_grown {w w':World} (hg:w.grownBy w' none):Below w.heap.size w w':=by
 exact(Below.refl _ _).grown hg (Nat.le_refl _) (fun _ h=>by cases h)
end Go.Proofs.YtjpklmighoondaaGreatDoor
