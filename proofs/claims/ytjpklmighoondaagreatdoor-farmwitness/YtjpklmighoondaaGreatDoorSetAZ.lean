/-
  The library's search, insert and delete over a state that is one's own.
  A call of a set: looked for by halves; put in, or taken out, in place.
-/
import Derived.Test.YtjpklmighoondaaGreatDoorWalkDZ
namespace Go.Proofs.YtjpklmighoondaaGreatDoor
open Go.RowKit Go.Sort
theorem getD_at {st:List Int} {j:Nat} (h:j < st.length):st.getD j 0=st[j]:=by
 rw[List.getD_eq_getElem?_getD,List.getElem?_eq_getElem h];rfl
theorem search_any (st:List Int) (a:Int) (v:Value) (base:Nat) (w:World) (h:RowAt w base v st) (hs:st.Pairwise (· ≤ ·)) (hlen:st.length≤100000):
  Calls Tryz.prog 246 #[v,.int .i64 a] w fun e w'=>e=.returned (.tuple #[.int .i64 (placeOf st a:Nat),.bool (st.contains a)])∧∃q,w'=w.drewN q:=by
 rcases h with ⟨rfl,rfl⟩ | ⟨g,off,cap,cur,rfl,hb,hg,h1,h2,h3,h4⟩
 ·exact(Any.slices_BinarySearch_int_empty laySearch none 0 a w).mono fun e w' ⟨he,hw⟩=>⟨he,0,hw⟩
 ·have:=Any.slices_BinarySearch_int laySearch g off st.length cap st a w (Nat.le_refl _) (by omega) (fun j hj=>by rw[getD_at hj];exact h4 j hj) (by rw[List.take_length];exact hs);rw[List.take_length] at this;exact this
theorem map_getElem? {st:List Int} {j:Nat} {u:Value} (h:(st.map (Value.int .i64))[j]?=some u):∃hj:j < st.length,u=.int .i64 st[j]:=by
 have hj:j < st.length:=by
  have:=(List.getElem?_eq_some_iff.1 h).1
  simpa using this
 rw[List.getElem?_map,List.getElem?_eq_getElem hj] at h;exact⟨hj,by simpa using h.symm⟩
theorem one_cells (st:List Int):∀u∈st.map (Value.int .i64),u.oneCell'=true:=by
 intro u hu;obtain⟨x,_,rfl⟩:=List.mem_map.1 hu;rfl
def insL (st:List Int) (i:Nat) (a:Int):List Int:=st.take i++a::st.drop i
theorem insL_len {st:List Int} {i:Nat} {a:Int} (h:i≤st.length):(insL st i a).length=st.length+1:=by simp[insL];omega
theorem insL_lo {st:List Int} {i j:Nat} {a:Int} (h:i≤st.length) (hj:j < i):(insL st i a)[j]?=st[j]?:=by
 unfold insL;rw[List.getElem?_append_left (by simp;omega),List.getElem?_take_of_lt hj]
theorem insL_at {st:List Int} {i:Nat} {a:Int} (h:i≤st.length):(insL st i a)[i]?=some a:=by
 unfold insL;rw[List.getElem?_append_right (by simp;omega)];simp[Nat.min_eq_left h]
theorem insL_hi {st:List Int} {i j:Nat} {a:Int} (h:i≤st.length) (hj:i≤j):(insL st i a)[j+1]?=st[j]?:=by
 unfold insL;rw[List.getElem?_append_right (by simp;omega)];simp only[List.length_take,Nat.min_eq_left h,show j+1 - i=(j - i)+1 by omega,List.getElem?_cons_succ,List.getElem?_drop]
 congr 1;omega
theorem insL_end {st:List Int} {a:Int} :insL st st.length a=st++ [a]:=by simp[insL]
def OneAt (w:World) (vb:Nat) (a:Int):Prop:=w.heap[vb]?=some (.cells #[.int .i64 a] 3 (0,0))
theorem size_zero (n:Nat):(Builtin.zeroCells (Value.int .i64 0).cells n).size=n:=by rw[size_zeroCells];simp[Value.cells]
theorem insL_cell {st:List Int} {i j:Nat} {a:Int} (hj:j < (insL st i a).length) {u:Int} (h:(insL st i a)[j]?=some u):(insL st i a)[j]=u:=by
 rw[List.getElem?_eq_getElem hj] at h;exact Option.some.inj h
theorem insert_end_grow (st:List Int) (a:Int) (base vb vc:Nat) (w:World) (hlen:st.length≤100000) (hbase:base≤w.heap.size) (hv:OneAt w vb a) (b:Option Addr) (cap:Nat) (hnc:st.length≤cap) (hroom:cap < st.length+1)
  (hb0:b=none→st.length=0) (hcs:∀A,b=some A→∀j u,(st.map (Value.int .i64))[j]?=some u→w.cell? (A.add j)=some u):
  Calls Tryz.prog 247 #[.slice b st.length cap,.int .i64 st.length,.slice (some ⟨vb,0,none⟩) 1 vc] w fun e w'=>∃v',e=.returned v'∧∀v0,Turned w base v0 w' v' (insL st st.length a):=by
 have hvs:∀j u,[Value.int .i64 a][j]?=some u→w.cell? ⟨vb,0+j,none⟩=some u:=by
  intro j u hj
  match j,hj with
  | 0,hj=>
   simp at hj;subst hj;rw[cell_of_row w vb _ _ _ _ hv];rfl
 refine(Any2.slices_Insert_int_end_grow layInsert b st.length cap vb 0 1 vc (st.map (Value.int .i64)) [.int .i64 a] w (by decide) hnc hroom (by omega) (by simp) rfl hb0 hcs hvs (by simp[Value.oneCell'])).mono ?_;rintro e w' ⟨he,rfl⟩;refine⟨_,he,fun v0=>?_⟩;have hge:=grownCap_ge w (st.length+1) cap 3;refine⟨.inr ⟨w.heap.size,0,grownCap w (st.length+1) cap 3,_,by rw[insL_end,List.length_append];rfl,hbase,heap_alloc_new w.drew _,by rw[insL_end];simpa using hge,?_,grownCap_le_maxLen _ _ _ _ (by unfold maxLen;omega),fun j hj=>?_⟩,((grown_drew w none).trans (World.grownBy_alloc _ _ _)).but _,fun k hk=>.inr ?_⟩
 ·rw[Array.size_append,size_zeroCells];simp[Value.cells];show grownCap w (st.length+1) cap 3≤st.length+1+(grownCap w (st.length+1) cap 3 - (st.length+1));omega
 ·refine(cell_of_row _ w.heap.size (0+j) _ _ _ (heap_alloc_new w.drew _)).trans ?_;have hj':j < st.length+1:=by rw[insL_end] at hj;simpa using hj
  rw[Array.getElem?_append_left (by simp;omega)];have e:(insL st st.length a).map (Value.int .i64)=st.map (Value.int .i64)++ [.int .i64 a]:=by rw[insL_end];simp
  rw[←e,Nat.zero_add];simp[List.getElem?_eq_getElem hj]
 ·obtain rfl:w.heap.size=k:=by simpa [Value.ownBlock] using hk
  exact Nat.le_refl _
theorem insert_any (st:List Int) (i:Nat) (a:Int) (v:Value) (base vb vc:Nat) (w:World) (h:RowAt w base v st) (hi:i≤st.length) (hlen:st.length≤100000) (hbase:base≤w.heap.size)
  (hv:OneAt w vb a) (hne:v.ownBlock≠some vb):
  Calls Tryz.prog 247 #[v,.int .i64 i,.slice (some ⟨vb,0,none⟩) 1 vc] w fun e w'=>∃v',e=.returned v'∧Turned w base v w' v' (insL st i a):=by
 have hvs:∀j u,[Value.int .i64 a][j]?=some u→w.cell? ⟨vb,0+j,none⟩=some u:=by
  intro j u hj
  match j,hj with
  | 0,hj=>
   simp at hj;subst hj;rw[cell_of_row w vb _ _ _ _ hv];rfl
 have h1v:∀u∈ [Value.int .i64 a],u.oneCell'=true:=by simp[Value.oneCell']
 rcases h with ⟨rfl,rfl⟩ | ⟨g,off,cap,cur,rfl,hb,hg,h1,h2,h3,h4⟩
 ·obtain rfl:i=0:=by simpa using hi
  exact(insert_end_grow [] a base vb vc w (by decide) hbase hv none 0 (by decide) (by decide) (fun _=>rfl) (fun A hA=>by cases hA)).mono fun e w' ⟨v',he,ht⟩=>⟨v',he,ht _⟩
 ·have hcs:∀j u,(st.map (Value.int .i64))[j]?=some u→w.cell? ⟨g,off+j,none⟩=some u:=fun j u hu=>by
   obtain⟨hj,rfl⟩:=map_getElem? hu;exact h4 j hj
  by_cases hend:i=st.length
  ·subst hend;by_cases hroom:st.length+1≤cap
   ·refine(Any2.slices_Insert_int_end_room layInsert g off st.length cap vb 0 1 vc [.int .i64 a] w (by decide) hroom (by unfold maxLen at h3;omega) rfl (fun j hj=>some_of_heap hg (by omega)) (fun j _=>unfrozen_of_heap hg _) hvs h1v).mono ?_;rintro e w' ⟨he,rfl⟩;refine⟨_,he,rowAt_put hb (heap_setCells _ _ _ _ hg) (by rw[insL_len (Nat.le_refl _)];exact hroom) h2 h3 (fun j hj=>?_) (insL_len (Nat.le_refl _)).symm,grown_setCells _ _ _ _,fun k hk=>.inl hk⟩;by_cases hj':j < st.length
    ·rw[insL_cell hj ((insL_lo (Nat.le_refl _) hj').trans (List.getElem?_eq_getElem hj')),World.cell?_setCells_out g _ _ _ _ (fun _ _=>.inl (by show off+j < off+st.length;omega))];exact h4 j hj'
    ·obtain rfl:j=st.length:=by rw[insL_len (Nat.le_refl _)] at hj;omega
     rw[insL_cell hj (insL_at (Nat.le_refl _))]
     simpa using World.cell?_setCells_in g [.int .i64 a] (off+st.length) w (fun j hj=>some_of_heap hg (by simp at hj;omega)) 0 (by simp)
   ·exact(insert_end_grow st a base vb vc w hlen hbase hv (some ⟨g,off,none⟩) cap h1 (by omega) (fun hA=>by cases hA) (fun A hA j u hu=>by obtain rfl:=Option.some.inj hA;rw[Addr.add_lit];exact hcs j u hu)).mono fun e w' ⟨v',he,ht⟩=>⟨v',he,ht _⟩
  ·have hlt:i < st.length:=by omega
   by_cases hroom:st.length+1≤cap
   ·refine(Any2.slices_Insert_int_shift layInsert g off st.length cap i vb 0 1 vc (st.map (Value.int .i64)) [.int .i64 a] w hlt (by decide) hroom (by unfold maxLen at h3;omega) (fun e=>hne (by rw[e];rfl)) (by simp) rfl hcs (fun j hj=>some_of_heap hg (by omega)) (fun j _=>unfrozen_of_heap hg _) hvs (one_cells st) h1v 3 3 1 cur.size (by simp[World.shape?,OneAt] at hv ⊢;rw[hv];simp) (shape_of_heap hg) (by omega) (frozen_of_row w vb _ _ _ hv) (frozen_of_row w vb _ _ _ hv)).mono ?_;rintro e w' ⟨he,rfl⟩;obtain⟨c1,e1,z1⟩:=heap_setCells ((st.map (Value.int .i64)).drop i) (off+(i+1)) w.drew cur hg;refine⟨_,he,rowAt_put hb (by obtain⟨c2,e2,z2⟩:=heap_setCells [.int .i64 a] (off+i) _ c1 e1;exact⟨c2,e2,z2.trans z1⟩) (by rw[insL_len hi];exact hroom) h2 h3 (fun j hj=>?_) (insL_len hi).symm,((grown_drew w _).trans (grown_setCells _ _ _ _)).trans (grown_setCells _ _ _ _),fun k hk=>.inl hk⟩;have hin:∀t,t < ((st.map (Value.int .i64)).drop i).length→(w.drew.cell? ⟨g,off+(i+1)+t,none⟩).isSome=true:=fun t ht=>some_of_heap (w:=w) hg (by simp at ht;omega)
    by_cases hj1:j < i
    ·rw[insL_cell hj ((insL_lo hi hj1).trans (List.getElem?_eq_getElem (by omega))),World.cell?_setCells_out g _ _ _ _ (fun _ _=>.inl (by show off+j < off+i;omega)),World.cell?_setCells_out g _ _ _ _ (fun _ _=>.inl (by show off+j < off+(i+1);omega))];exact h4 j (by omega)
    ·by_cases hj2:j=i
     ·subst hj2;rw[insL_cell hj (insL_at hi)]
      simpa using World.cell?_setCells_in g [.int .i64 a] (off+j) _ (fun t ht=>by rw[cell_of_row _ _ _ _ _ _ e1,Array.getElem?_eq_getElem (by simp at ht;omega)];rfl) 0 (by simp)
     ·obtain⟨t,rfl⟩:∃t,j=i+t+1:=⟨j - i - 1,by omega⟩;have hjl:i+t < st.length:=by rw[insL_len hi] at hj;omega
      rw[insL_cell hj ((insL_hi hi (by omega)).trans (List.getElem?_eq_getElem hjl)),World.cell?_setCells_out g _ _ _ _ (fun _ _=>.inr (by show off+i+1≤off+(i+t+1);omega))];have:=World.cell?_setCells_in g ((st.map (Value.int .i64)).drop i) (off+(i+1)) w.drew hin t (by simp;omega);rw[show off+(i+1)+t=off+(i+t+1) by omega] at this;rw[this];simp
   ·refine(Any2.slices_Insert_int_grow layInsert g off st.length cap i vb 0 1 vc (st.map (Value.int .i64)) [.int .i64 a] w hlt (by decide) h1 (by omega) (by omega) (by simp) rfl hcs hvs (one_cells st) h1v).mono ?_;rintro e w' ⟨he,rfl⟩;refine⟨_,he,?_⟩;have hge:=grownCap_ge w (st.length+1) cap 3;obtain⟨c0,hc0⟩:∃c0,c0=(((st.map (Value.int .i64)).take i).toArray++Builtin.zeroCells (Value.int .i64 0).cells (st.length+1 - i)++Builtin.zeroCells (Value.int .i64 0).cells (grownCap w (st.length+1) cap 3 - (st.length+1))):=⟨_,rfl⟩;have hsz:c0.size=grownCap w (st.length+1) cap 3:=by
     rw[hc0,Array.size_append,Array.size_append,size_zero,size_zero];simp;omega
    have e0:(w.alloc (.cells c0 3)).drew.heap[w.heap.size]?=some (.cells c0 3 (0,0)):=heap_alloc_new w _;have hlow:∀t (ht:t < st.length),t < i→(w.alloc (.cells c0 3)).drew.cell? ⟨w.heap.size,t,none⟩=some (.int .i64 st[t]):=by
     intro t ht hti;rw[cell_of_row _ _ _ _ _ _ e0,hc0,Array.append_assoc,Array.getElem?_append_left (by simp;omega)];simp[List.getElem?_take_of_lt hti,List.getElem?_eq_getElem ht]
    obtain⟨c1,e1,z1⟩:=heap_setCells [.int .i64 a] i _ c0 e0;have e1':((w.alloc (.cells c0 3)).drew.setCells w.heap.size i [.int .i64 a]).drew.heap[w.heap.size]?=some (.cells c1 3 (0,0)):=e1;obtain⟨c2,e2,z2⟩:=heap_setCells ((st.map (Value.int .i64)).drop i) (i+1) _ c1 e1';show Turned w base _ ((((w.alloc (.cells (((st.map (Value.int .i64)).take i).toArray++Builtin.zeroCells (Value.int .i64 0).cells (st.length+1 - i)++Builtin.zeroCells (Value.int .i64 0).cells (grownCap w (st.length+1) cap 3 - (st.length+1))) 3)).drew.setCells w.heap.size i [.int .i64 a]).drew).setCells w.heap.size (i+1) ((st.map (Value.int .i64)).drop i)) (.slice (some ⟨w.heap.size,0,none⟩) (st.length+1) (grownCap w (st.length+1) cap 3)) _;rw[←hc0];refine⟨rowAt_put (cur:=c0) hbase ⟨c2,e2,z2.trans z1⟩ (by rw[insL_len hi];exact hge) (by omega) (grownCap_le_maxLen _ _ _ _ (by unfold maxLen;omega)) (fun j hj=>?_) (insL_len hi).symm,?_,fun k hk=>.inr ?_⟩
    ·rw[Nat.zero_add];by_cases hj1:j < i
     ·rw[insL_cell hj ((insL_lo hi hj1).trans (List.getElem?_eq_getElem (by omega))),World.cell?_setCells_out w.heap.size _ _ _ _ (fun _ _=>.inl (by show j < i+1;omega))];refine(World.cell?_setCells_out w.heap.size [.int .i64 a] i (w.alloc (.cells c0 3)).drew ⟨w.heap.size,j,none⟩ (fun _ _=>.inl (by show j < i;omega))).trans ?_;exact hlow j (by omega) hj1
     ·by_cases hj2:j=i
      ·subst hj2;rw[insL_cell hj (insL_at hi),World.cell?_setCells_out w.heap.size _ _ _ _ (fun _ _=>.inl (by show j < j+1;omega))];exact World.cell?_setCells_in w.heap.size [.int .i64 a] j (w.alloc (.cells c0 3)).drew (fun t ht=>by rw[cell_of_row _ _ _ _ _ _ e0,Array.getElem?_eq_getElem (by simp at ht;omega)];rfl) 0 (by simp)
      ·obtain⟨t,rfl⟩:∃t,j=i+t+1:=⟨j - i - 1,by omega⟩;have hjl:i+t < st.length:=by rw[insL_len hi] at hj;omega
       rw[insL_cell hj ((insL_hi hi (by omega)).trans (List.getElem?_eq_getElem hjl))];have:=World.cell?_setCells_in w.heap.size ((st.map (Value.int .i64)).drop i) (i+1) _ (fun t ht=>by rw[cell_of_row _ _ _ _ _ _ e1',Array.getElem?_eq_getElem (by simp at ht;omega)];rfl) t (by simp;omega);rw[show i+1+t=i+t+1 by omega] at this;rw[this];simp
    ·have G:=((((World.grownBy_alloc w (.cells c0 3) none).trans (grown_drew _ _)).but (some w.heap.size)).trans (grown_setCells w.heap.size [.int .i64 a] i _)).trans ((grown_drew _ _).trans (grown_setCells w.heap.size ((st.map (Value.int .i64)).drop i) (i+1) _));exact⟨G.os,G.tape,G.output,G.size,fun k hk _=>G.block k hk (by simp;omega)⟩
    ·obtain rfl:w.heap.size=k:=by simpa [Value.ownBlock] using hk
     exact Nat.le_refl _
def delL (st:List Int) (i:Nat):List Int:=st.take i++st.drop (i+1)
theorem delete_any (st:List Int) (i:Nat) (v:Value) (base:Nat) (w:World) (h:RowAt w base v st) (hi:i < st.length):
  Calls Tryz.prog 248 #[v,.int .i64 i,.int .i64 ((i+1:Nat):Int)] w fun e w'=>∃v',e=.returned v'∧Turned w base v w' v' (delL st i):=by
 rcases h with ⟨rfl,rfl⟩ | ⟨g,off,cap,cur,rfl,hb,hg,h1,h2,h3,h4⟩
 ·simp at hi
 ·have hH:Holds (Value.int .i64) w g off st.toArray:=fun j hj=>by
   have hj':j < st.length:=by simpa using hj
   refine⟨?_,unfrozen_of_heap hg _⟩;rw[h4 j hj'];simp[hj']
  refine(Any.slices_Delete_int layDelete g off cap i (i+1) st w hH h1 (by unfold maxLen at h3;omega) (by omega) (by omega)).mono ?_;rintro e w' ⟨he,q,rfl⟩;have hd:(st.take i++st.drop (i+1)++List.replicate (i+1 - i) 0).toArray.size=st.toArray.size:=by simp;omega
  have hgr:w.grownBy (putRow (Value.int .i64) (Sort.ahead w q) g off (st.take i++st.drop (i+1)++List.replicate (i+1 - i) 0).toArray) (some g):=
   ⟨rfl,rfl,rfl,by simp[Sort.ahead],fun k _ hne=>by
    have:g≠k:=fun e=>hne (by rw[e])
    simp[putRow,mapBlock,Sort.ahead,Array.getElem?_modify,this]⟩
  refine⟨_,he,rowAt_put (cur:=cur) hb ⟨putCells (Value.int .i64) off (st.take i++st.drop (i+1)++List.replicate (i+1 - i) 0).toArray cur,?_,by simp[putCells]⟩ (by simp[delL];omega) h2 h3 (fun j hj=>?_) (by simp[delL];omega),hgr,fun k hk=>.inl hk⟩
  ·simp[putRow,mapBlock,Sort.ahead,Array.getElem?_modify,hg,onCells]
  ·have hj':j < st.length - 1:=by simp[delL] at hj;omega
   have:=cell?_putRow (Value.int .i64) (Sort.ahead w q) g off st.toArray (st.take i++st.drop (i+1)++List.replicate (i+1 - i) 0).toArray hH hd j (by simp;omega);rw[this]
   congr 2
   rw[getElem!_pos _ j (by simp;omega)];simp only[List.getElem_toArray];exact List.getElem_append_left (by simp;omega)
open Go.RowKit
theorem place_le (st:List Int) (a:Int):placeOf st a≤st.length:=List.countP_le_length
theorem place_lt {st:List Int} {a:Int} (h:st.contains a=true):placeOf st a < st.length:=by
 unfold placeOf;have hm:a∈st:=by simpa using h
 rcases Nat.lt_or_ge (st.countP (· < a)) st.length with h | h
 ·exact h
 ·have:=List.countP_eq_length.1 (Nat.le_antisymm List.countP_le_length h) a hm;simp at this
theorem oneAt_new (w:World) (a:Int) {n:Nat} (h:n=w.heap.size):OneAt (w.alloc (.cells #[.int .i64 a] 3)) n a:=by subst h;exact heap_alloc_new _ _
theorem setM_put {st:List Int} {k a:Int} (hk:k=6) (h:st.contains a=false):setM st k a=(insL st (placeOf st a) a,1):=by
 simp only[setM,hk,h,insL];simp
theorem setM_drop {st:List Int} {k a:Int} (hk:k=7) (h:st.contains a=true):setM st k a=(delL st (placeOf st a),1):=by
 simp only[setM,hk,h,delL];simp
theorem setM_has {st:List Int} {k a:Int} (hk:k=8) (h:st.contains a=true):setM st k a=(st,1):=by
 simp only[setM,hk,h];simp
theorem setM_rest {st:List Int} {k a:Int} (h6:k=6→st.contains a=true) (h7:k=7→st.contains a=false) (h8:k=8→st.contains a=false):setM st k a=(st,0):=by
 unfold setM;rw[if_neg (fun h=>by rw[h6 h.1] at h;simp at h),if_neg (fun h=>by rw[h7 h.1] at h;simp at h),if_neg (fun h=>by rw[h8 h.1] at h;simp at h)]
set_option maxRecDepth 100000 in
set_option maxHeartbeats 2000000 in
theorem callSet_any (st:List Int) (op:Opn) (v:Value) (base:Nat) (w:World) (h:RowAt w base v st) (hs:st.Pairwise (· ≤ ·)) (hlen:st.length≤100000) (hbase:base≤w.heap.size):
  Calls Tryz.prog 207 #[v,op.agg] w fun e w'=>∃v',e=.returned (.tuple #[v',.int .i64 (setM st op.d op.a).2])∧Turned w base v w' v' (setM st op.d op.a).1:=by
 have hgr:=World.grownBy_alloc w op.obj none;have HR:=hideIt (h.new hgr);have HG:=hideIt hgr;have HV:=hideIt h.lt;unfold Opn.obj at HR HG;unfold Opn.agg;have hpl:=place_le st op.a;have HP:=hideIt (@place_lt st op.a);obtain⟨c,hc⟩:∃c,st.contains op.a=c:=⟨_,rfl⟩;obtain⟨pl,hpq⟩:∃pl,placeOf st op.a=pl:=⟨_,rfl⟩;have HS:=hideIt (search_any st op.a v base _ HR.out hs hlen);rw[hc,hpq] at HS HP;rw[hpq] at hpl;have HC:=hideIt hc;clear hc;clear h hgr;cases h6:(op.d==6)
 ·have n6:op.d≠6:=by simpa using h6
  cases h7:(op.d==7)
  ·have n7:op.d≠7:=by simpa using h7
   cases h8:(op.d==8)
   ·have n8:op.d≠8:=by simpa using h8
    rw[setM_rest (fun e=>absurd e n6) (fun e=>absurd e n7) (fun e=>absurd e n8)];clear n6 n7 n8;go_enter Tryz.func207,Tryz.ntmps207
    go_wp2_with (go_at_call 246;refine HS.out.mono ?_;rintro e w1 ⟨rfl,q,rfl⟩)
    go_ret2;exact⟨_,rfl,(turned_same (HR.out.new (grown_drewN _ q _))).behind (HG.out.trans (grown_drewN _ _ _))⟩
   ·have n8:op.d=8:=by simpa using h8
    cases c
    ·rw[setM_rest (fun e=>absurd e n6) (fun e=>absurd e n7) (fun _=>HC.out)];clear n6 n7 n8;go_enter Tryz.func207,Tryz.ntmps207
     go_wp2_with (go_at_call 246;refine HS.out.mono ?_;rintro e w1 ⟨rfl,q,rfl⟩)
     go_ret2;exact⟨_,rfl,(turned_same (HR.out.new (grown_drewN _ q _))).behind (HG.out.trans (grown_drewN _ _ _))⟩
    ·rw[setM_has n8 HC.out];clear n6 n7 n8;go_enter Tryz.func207,Tryz.ntmps207
     go_wp2_with (go_at_call 246;refine HS.out.mono ?_;rintro e w1 ⟨rfl,q,rfl⟩)
     go_ret2;exact⟨_,rfl,(turned_same (HR.out.new (grown_drewN _ q _))).behind (HG.out.trans (grown_drewN _ _ _))⟩
  ·have n7:op.d=7:=by simpa using h7
   have h8:(op.d==8)=false:=by rw[n7];rfl
   cases c
   ·rw[setM_rest (fun e=>absurd e n6) (fun _=>HC.out) (fun e=>absurd (n7.symm.trans e) (by decide))];clear n6 n7;go_enter Tryz.func207,Tryz.ntmps207
    go_wp2_with (go_at_call 246;refine HS.out.mono ?_;rintro e w1 ⟨rfl,q,rfl⟩)
    go_ret2;exact⟨_,rfl,(turned_same (HR.out.new (grown_drewN _ q _))).behind (HG.out.trans (grown_drewN _ _ _))⟩
   ·rw[setM_drop n7 HC.out,hpq];have hpos:=HP.out rfl;have hwr:IntKind.i64.wrap ((pl:Int)+1)=((pl+1:Nat):Int):=by rw[IntKind.wrap_i64];omega
    clear n6 n7;go_enter Tryz.func207,Tryz.ntmps207
    go_wp2_with (first | (go_at_call 246;refine HS.out.mono ?_;rintro e w1 ⟨rfl,q,rfl⟩) | (go_at_call 248;refine(delete_any st pl v base _ (HR.out.new (grown_drewN _ q _)) hpos).mono ?_;rintro e w2 ⟨v',rfl,ht⟩))
    go_ret2;exact⟨_,rfl,ht.behind (HG.out.trans (grown_drewN _ _ _))⟩
 ·have n6:op.d=6:=by simpa using h6
  have h7:(op.d==7)=false:=by rw[n6];rfl
  have h8:(op.d==8)=false:=by rw[n6];rfl
  cases c
  ·rw[setM_put n6 HC.out,hpq];clear n6;go_enter Tryz.func207,Tryz.ntmps207
   go_wp2_with (first | (go_at_call 246;refine HS.out.mono ?_;rintro e w1 ⟨rfl,q,rfl⟩) | (go_at_call 247;refine(insert_any st pl op.a v base _ _ _ ((HR.out.new (grown_drewN _ q _)).new (World.grownBy_alloc _ _ none)) hpl hlen ?c1 ?c2 ?c3).mono ?_))
   case c1=>simp[World.drewN];omega
   case c2=>exact oneAt_new _ _ (by simp[World.drewN])
   case c3=>
    intro e;have:=(HV.out _ e).2;omega
   rintro e w2 ⟨v',rfl,ht⟩;have HT:=hideIt (ht.behind ((HG.out.trans (grown_drewN _ _ _)).trans (World.grownBy_alloc _ _ none)));clear ht;go_wp2;go_ret2;exact⟨_,rfl,HT.out⟩
  ·rw[setM_rest (fun _=>HC.out) (fun e=>absurd (n6.symm.trans e) (by decide)) (fun e=>absurd (n6.symm.trans e) (by decide))];clear n6;go_enter Tryz.func207,Tryz.ntmps207
   go_wp2_with (go_at_call 246;refine HS.out.mono ?_;rintro e w1 ⟨rfl,q,rfl⟩)
   go_ret2;exact⟨_,rfl,(turned_same (HR.out.new (grown_drewN _ q _))).behind (HG.out.trans (grown_drewN _ _ _))⟩
end Go.Proofs.YtjpklmighoondaaGreatDoor
