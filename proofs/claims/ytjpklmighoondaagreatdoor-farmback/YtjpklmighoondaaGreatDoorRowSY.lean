/-
  A state in memory that is one's own: a row of numbers, from some block on, that may be written into.
  Which calls an object knows, and its state at first: the program's and the document's, walked.
-/
import Derived.Test.YtjpklmighoondaaGreatDoorRdBY
import Derived.Laws.AppendOwn
import Derived.Laws.IdiomCopy
import Derived.Laws.Rows
import Derived.Sort.Row
import Derived.Maps.AppendAt
import Derived.Maps.Range
import Derived.Maps.RangeWalk
import Derived.Deep.Draws
import Derived.Test.YtjpklmighoondaaGreatDoorProg
import Derived.WalkKit
import Derived.WalkSpells
import Derived.WalkLawsBesides
import Derived.Deep.RegionWith
import Derived.LoopTactic
namespace Go.Proofs.YtjpklmighoondaaGreatDoor
open Go.RowKit
def RowAt (w:World) (base:Nat) (v:Value) (st:List Int):Prop:=
 (v=.slice none 0 0∧st= [])∨
 ∃g off cap cur,v=.slice (some ⟨g,off,none⟩) st.length cap∧base≤g∧w.heap[g]?=some (.cells cur 3 (0,0))∧st.length≤cap∧off+cap≤cur.size∧cap≤maxLen∧
  ∀j,(hj:j < st.length)→w.cell? ⟨g,off+j,none⟩=some (.int .i64 st[j])
theorem lt_of_heap {w:World} {g:Nat} {o:Obj} (h:w.heap[g]?=some o):g < w.heap.size:=by
 rcases Nat.lt_or_ge g w.heap.size with hlt | hge
 ·exact hlt
 ·rw[Array.getElem?_eq_none hge] at h;cases h
theorem rowAt_nil (w:World) (base:Nat):RowAt w base (.slice none 0 0) []:=.inl ⟨rfl,rfl⟩
theorem RowAt.lt {w:World} {base:Nat} {v:Value} {st:List Int} (h:RowAt w base v st):∀k,v.ownBlock=some k→base≤k∧k < w.heap.size:=by
 intro k hk;rcases h with ⟨rfl,_⟩ | ⟨g,off,cap,cur,rfl,hb,hg,_⟩
 ·cases hk
 ·obtain rfl:g=k:=by simpa [Value.ownBlock] using hk
  exact⟨hb,lt_of_heap hg⟩
theorem RowAt.kept {w w':World} {base:Nat} {v:Value} {st:List Int} {row:Option Nat} (h:RowAt w base v st) (hg:w.grownBy w' row) (hne:v.ownBlock=none∨v.ownBlock≠row):RowAt w' base v st:=by
 rcases h with h | ⟨g,off,cap,cur,rfl,hb,hh,h1,h2,h4,h5⟩
 ·exact .inl h
 ·have hne':some g≠row:=by
   rcases hne with h | h
   ·cases h
   ·exact h
  have e:=hg.block g (lt_of_heap hh) hne';exact .inr ⟨g,off,cap,cur,rfl,hb,e.trans hh,h1,h2,h4,fun j hj=>(World.cell?_of_block (a:=⟨g,off+j,none⟩) e).trans (h5 j hj)⟩
theorem RowAt.base {w:World} {base base':Nat} {v:Value} {st:List Int} (h:RowAt w base v st) (hb:base'≤base):RowAt w base' v st:=by
 rcases h with h | ⟨g,off,cap,cur,rfl,h0,h⟩
 ·exact .inl h
 ·exact .inr ⟨g,off,cap,cur,rfl,by omega,h⟩
theorem rowAt_owns {w:World} {base:Nat} {v:Value} {st:List Int} (h:w.ownsRow base 3 1 v st.length (st.map (Value.int .i64))):RowAt w base v st:=by
 obtain⟨_,⟨rfl,h0⟩ | ⟨g,cap,cur,rfl,hb,hg,h1,h2,h3,h4⟩⟩:=h
 ·exact .inl ⟨rfl,List.length_eq_zero_iff.1 h0⟩
 ·refine .inr ⟨g,0,cap,cur,rfl,hb,hg,h1,by omega,h2,fun j hj=>?_⟩;rw[cell_of_row w g _ cur 3 (0,0) hg,Nat.zero_add];have:=congrArg (·[j]?) h4;simp only[Nat.mul_one] at this;rw[List.getElem?_take_of_lt hj,List.getElem?_map,List.getElem?_eq_getElem hj] at this
  simpa using this
theorem grown_setCell (w:World) (a:Addr) (u:Value):w.grownBy (w.setCell a u) (some a.block):=
 ⟨rfl,rfl,rfl,by simp[World.setCell],fun k _ hne=>by
  have:a.block≠k:=fun e=>hne (by rw[e])
  simp[World.setCell,Array.getElem?_modify,this]⟩
theorem grown_refl (w:World) (row:Option Nat):w.grownBy w row:=⟨rfl,rfl,rfl,Nat.le_refl _,fun _ _ _=>rfl⟩
theorem grown_drew (w:World) (row:Option Nat):w.grownBy w.drew row:=⟨rfl,rfl,rfl,Nat.le_refl _,fun _ _ _=>rfl⟩
theorem grown_drewN (w:World) (n:Nat) (row:Option Nat):w.grownBy (w.drewN n) row:=⟨rfl,rfl,rfl,Nat.le_refl _,fun _ _ _=>rfl⟩
theorem grown_setCells (b:Nat):∀(vs:List Value) (o:Nat) (w:World),w.grownBy (w.setCells b o vs) (some b)
 | [],_,w=>grown_refl w _
 | v::r,o,w=>(grown_setCell w ⟨b,o,none⟩ v).trans (grown_setCells b r (o+1) _)
theorem heap_setCell {w:World} {g:Nat} {cur:Array Value} {t:TypeId} {fr:Nat×Nat} (h:w.heap[g]?=some (.cells cur t fr)) (o:Nat) (u:Value):∃cur',(w.setCell ⟨g,o,none⟩ u).heap[g]?=some (.cells cur' t fr)∧cur'.size=cur.size:=by
 refine⟨cur.setIfInBounds o u,?_,by simp⟩;simp[World.setCell,Array.getElem?_modify,h]
theorem heap_setCells {g:Nat} {t:TypeId} {fr:Nat×Nat} :∀(vs:List Value) (o:Nat) (w:World) (cur:Array Value),w.heap[g]?=some (.cells cur t fr)→∃cur',(w.setCells g o vs).heap[g]?=some (.cells cur' t fr)∧cur'.size=cur.size
 | [],_,_,cur,h=>⟨cur,h,rfl⟩
 | v::r,o,w,cur,h=>by
  obtain⟨c1,h1,e1⟩:=heap_setCell h o v;obtain⟨c2,h2,e2⟩:=heap_setCells r (o+1) _ c1 h1;exact⟨c2,h2,e2.trans e1⟩
section
variable {w : World} {g : Nat} {cur : Array Value}
theorem some_of_heap (h:w.heap[g]?=some (.cells cur 3 (0,0))) {i:Nat} (hi:i < cur.size):(w.cell? ⟨g,i,none⟩).isSome=true:=by
 rw[cell_of_row w g i cur 3 (0,0) h,Array.getElem?_eq_getElem hi];rfl
theorem unfrozen_of_heap (h:w.heap[g]?=some (.cells cur 3 (0,0))) (i:Nat):w.frozen? ⟨g,i,none⟩=false:=frozen_of_row w g i cur 3 h
theorem shape_of_heap (h:w.heap[g]?=some (.cells cur 3 (0,0))):w.shape? g=some (3,cur.size):=by simp[World.shape?,h]
end
theorem rowAt_put {w':World} {base g off cap:Nat} {cur:Array Value} {st:List Int} (hb:base≤g) (hg':∃cur',w'.heap[g]?=some (.cells cur' 3 (0,0))∧cur'.size=cur.size)
  (h1:st.length≤cap) (h2:off+cap≤cur.size) (h4:cap≤maxLen) (h5:∀j,(hj:j < st.length)→w'.cell? ⟨g,off+j,none⟩=some (.int .i64 st[j])) {n:Nat} (hn:n=st.length):RowAt w' base (.slice (some ⟨g,off,none⟩) n cap) st:=by
 subst hn;obtain⟨cur',e1,e2⟩:=hg';exact .inr ⟨g,off,cap,cur',rfl,hb,e1,h1,by omega,h4,h5⟩
end Go.Proofs.YtjpklmighoondaaGreatDoor
namespace Go.Proofs.YtjpklmighoondaaGreatDoor
open Go.RowKit
theorem hideIt {p:Prop} (h:p):Hid p:=h
def KnownAt (w:World):Prop:=∀o k:Nat,o < 7→k < 13→w.cell? ⟨0,o*13+k,none⟩=some (.bool (knowsB o k))
theorem KnownAt.below {w w':World} {n:Nat} (h:KnownAt w) (hn:0 < n) (hb:Below n w w'):KnownAt w':=fun o k ho hk=>
 (hb.cell (p:=⟨0,o*13+k,none⟩) hn).trans (h o k ho hk)
theorem knowsB_out {o k:Int} (h:o < 0∨7≤o∨k < 0∨12 < k):knowsB o k=false:=by
 unfold knowsB;rcases h with h | h | h | h
 ·have:o≠1∧o≠2∧o≠3∧o≠4∧o≠5∧o≠6:=by omega
  simp[this]
 ·have:o≠1∧o≠2∧o≠3∧o≠4∧o≠5∧o≠6:=by omega
  simp[this]
 ·have:k≠1∧k≠2∧k≠3∧k≠4∧k≠5∧k≠6∧k≠7∧k≠8∧k≠9∧k≠10∧k≠11∧k≠12:=by omega
  simp[this]
 ·have:k≠1∧k≠2∧k≠3∧k≠4∧k≠5∧k≠6∧k≠7∧k≠8∧k≠9∧k≠10∧k≠11∧k≠12:=by omega
  simp[this]
set_option maxHeartbeats 400000 in
theorem knows_in (o k:Nat) (w:World) (ho:o < 7) (hk:k < 13) (hc:w.cell? ⟨0,o*13+k,none⟩=some (.bool (knowsB o k))):
  Calls Tryz.prog 81 #[.int .i64 o,.int .i64 k] w fun e w'=>e=.returned (.bool (knowsB o k))∧w'=w:=by
 have h1:decide ((o:Int) < 0)=false:=by simp
 have h2:decide (7≤(o:Int))=false:=by simp;omega
 have h3:decide ((k:Int) < 0)=false:=by simp
 have h4:decide (12 < (k:Int))=false:=by simp;omega
 have i1:(0:Int)≤(o:Int):=by omega
 have i2:(o:Int) < 7:=by omega
 have i3:(0:Int)≤(k:Int):=by omega
 have i4:(k:Int) < 13:=by omega
 go_enter Tryz.func81,Tryz.ntmps81
 go_wp2;go_ret;exact⟨rfl,rfl⟩
set_option maxHeartbeats 400000 in
theorem knows_out (o k:Int) (w:World) (h:o < 0∨7≤o∨k < 0∨12 < k):
  Calls Tryz.prog 81 #[.int .i64 o,.int .i64 k] w fun e w'=>e=.returned (.bool false)∧w'=w:=by
 by_cases h1:o < 0
 ·go_enter Tryz.func81,Tryz.ntmps81
  go_wp2;go_ret;exact⟨rfl,rfl⟩
 ·by_cases h2:7≤o
  ·go_enter Tryz.func81,Tryz.ntmps81
   go_wp2;go_ret;exact⟨rfl,rfl⟩
  ·by_cases h3:k < 0
   ·clear h;go_enter Tryz.func81,Tryz.ntmps81
    go_wp2;go_ret;exact⟨rfl,rfl⟩
   ·have h4:12 < k:=by omega
    clear h;go_enter Tryz.func81,Tryz.ntmps81
    go_wp2;go_ret;exact⟨rfl,rfl⟩
theorem knows_any (o k:Int) (w:World) (hK:KnownAt w):
  Calls Tryz.prog 81 #[.int .i64 o,.int .i64 k] w fun e w'=>e=.returned (.bool (knowsB o k))∧w'=w:=by
 by_cases h:o < 0∨7≤o∨k < 0∨12 < k
 ·rw[knowsB_out h];exact knows_out o k w h
 ·obtain⟨o',rfl⟩:∃n:Nat,o=n:=⟨o.toNat,by omega⟩;obtain⟨k',rfl⟩:∃n:Nat,k=n:=⟨k.toNat,by omega⟩;exact knows_in o' k' w (by omega) (by omega) (hK o' k' (by omega) (by omega))
set_option maxHeartbeats 400000 in
theorem one_any (o:Int) (w:World):Calls Tryz.prog 204 #[.int .i64 o] w fun e w'=>e=.returned (.bool (oneB o))∧w'=w:=by
 go_enter Tryz.func204,Tryz.ntmps204
 go_wp2;all_goals (go_ret;exact⟨by simp_all [oneB],rfl⟩)
theorem rowAt_zero (w:World):RowAt (w.alloc (.cells #[.int .i64 0] 3)) w.heap.size (.slice (some ⟨w.heap.size,0,none⟩) 1 1) [0]:=
 .inr ⟨w.heap.size,0,1,#[.int .i64 0],rfl,Nat.le_refl _,heap_alloc_new w _,Nat.le_refl _,Nat.le_refl _,by decide,fun j hj=>by
  obtain rfl:j=0:=by simp at hj;omega
  simp⟩
def startV (w:World) (o:Int):Value:=if oneB o then .slice (some ⟨w.heap.size,0,none⟩) 1 1 else .slice none 0 0
def startW (w:World) (o:Int):World:=if oneB o then w.alloc (.cells #[.int .i64 0] 3) else w
set_option maxHeartbeats 400000 in
theorem start_any (o:Int) (w:World):Calls Tryz.prog 140 #[.int .i64 o] w fun e w'=>e=.returned (startV w o)∧w'=startW w o:=by
 unfold startV startW;cases h:oneB o
 ·go_enter Tryz.func140,Tryz.ntmps140
  go_wp2_with (go_at_call 204;refine(one_any _ _).mono ?_;rintro e w' ⟨rfl,rfl⟩;rw[h])
  go_ret;exact⟨rfl,rfl⟩
 ·go_enter Tryz.func140,Tryz.ntmps140
  go_wp2_with (go_at_call 204;refine(one_any _ _).mono ?_;rintro e w' ⟨rfl,rfl⟩;rw[h])
  go_ret;exact⟨rfl,rfl⟩
theorem startAt (w:World) (o:Int):RowAt (startW w o) w.heap.size (startV w o) (startL o):=by
 unfold startV startW startL;cases oneB o
 ·exact rowAt_nil _ _
 ·exact rowAt_zero w
theorem startGrown (w:World) (o:Int):w.grownBy (startW w o) none:=by
 unfold startW;cases oneB o
 ·exact grown_refl _ _
 ·exact World.grownBy_alloc _ _ _
def HasInts (w:World) (v:Value) (st:List Int):Prop:=
 ∃a cap,v=.slice a st.length cap∧st.length≤cap∧cap≤maxLen∧(a=none→cap=0)∧(st= []∨∃b off,a=some ⟨b,off,none⟩∧∀j,(hj:j < st.length)→w.cell? ⟨b,off+j,none⟩=some (.int .i64 st[j]))
theorem RowAt.has {w:World} {base:Nat} {v:Value} {st:List Int} (h:RowAt w base v st):HasInts w v st:=by
 rcases h with ⟨rfl,rfl⟩ | ⟨g,off,cap,cur,rfl,_,_,h1,_,h2,h3⟩
 ·exact⟨none,0,rfl,by decide,by decide,fun _=>rfl,.inl rfl⟩
 ·exact⟨_,cap,rfl,h1,h2,fun e=>(by cases e),.inr ⟨g,off,rfl,h3⟩⟩
theorem HasInts.below {w w':World} {v:Value} {st:List Int} (h:HasInts w v st) (hb:Below w.heap.size w w'):HasInts w' v st:=by
 obtain⟨a,cap,rfl,hm,hm',hn,h⟩:=h;refine⟨a,cap,rfl,hm,hm',hn,?_⟩;rcases h with h | ⟨b,off,rfl,h⟩
 ·exact .inl h
 ·exact .inr ⟨b,off,rfl,fun j hj=>(hb.cell (World.block_lt_of_cell? w _ (h j hj))).trans (h j hj)⟩
theorem below_grown {w w':World} (hg:w.grownBy w' none):Below w.heap.size w w':=by
 exact(Below.refl _ _).grown hg (Nat.le_refl _) (fun _ h=>by cases h)
end Go.Proofs.YtjpklmighoondaaGreatDoor
