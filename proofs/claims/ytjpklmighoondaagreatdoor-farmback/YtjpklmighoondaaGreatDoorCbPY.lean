/-
  slices.Clone at a row, and the links' own copy, walked.
  The program's net, walked: Waiting, At.
  The program's net, walked: slices.Delete at mails.
  The program's net, walked: Drop.
-/
import Derived.Test.YtjpklmighoondaaGreatDoorEvpY
import Derived.ArgAppend
import Derived.Test.YtjpklmighoondaaGreatDoorRgLY
import Derived.Test.YtjpklmighoondaaGreatDoorFieldsQY
set_option maxRecDepth 100000
namespace Go.Proofs.YtjpklmighoondaaGreatDoor.St
open Go.RowKit
theorem nilNeB (w:World) (a:Addr) (n c:Nat):(binOp .eql 266 (.slice (some a) n c) (.slice none 0 0)).run Tryz.prog w=.ok (.bool false) w:=by kernel_rfl
def bitC (l:List Bool):List Value:=l.map fun x=>.bool x
theorem infoB:(Tryz.prog.info? 4).map (fun i=>(i.zero,i.size,i.bytes))=some (some (.bool false),1,1):=by kernel_rfl
set_option maxHeartbeats 1000000 in
theorem cloneB_any (xs:List Bool) (hx:xs.length≤100) (g off cap:Nat) (w:World) (hc:∀j (h:j < xs.length),w.cell? ⟨g,off+j,none⟩=some (.bool xs[j])):
  Calls Tryz.prog 226 #[.slice (some ⟨g,off,none⟩) xs.length cap] w fun e w'=>∃v,e=.returned v∧w'.ownsRow w.heap.size 4 1 v xs.length (bitC xs)∧Below w.heap.size w w':=by
 have hn:=nilNeB w ⟨g,off,none⟩ xs.length cap;obtain⟨i,hi,hz,hsz,hby⟩:=info_parts' infoB;have HB0:Hid (Below w.heap.size w (w.alloc (.cells #[] 4))):=belA (Below.refl _ _) _;have hown:(w.alloc (.cells #[] 4)).ownsRow w.heap.size 4 1 (.slice (some ⟨w.heap.size,0,none⟩) 0 0) 0 []:=⟨rfl,.inr ⟨w.heap.size,0,#[],rfl,Nat.le_refl _,heap_alloc_new w _,Nat.le_refl _,by unfold maxLen;omega,rfl,rfl⟩⟩;obtain⟨v',w',hr,ho,hg,_,hob⟩:=run_append_own_at (P:=Tryz.prog) (w:=w.alloc (.cells #[] 4)) w.heap.size 266 266 4 i _ 1 1 Tryz.underlying266 hi hz hsz hby rfl (by decide) (.slice (some ⟨w.heap.size,0,none⟩) 0 0) 0 [] hown ⟨g,off,none⟩ xs.length cap (bitC xs) (by simp[bitC]) (fun j u hj=>by
   rw[Addr.add_lit];have hj':j < xs.length:=by have:=(List.getElem?_eq_some_iff.1 hj).1;simpa [bitC] using this
   refine(HB0.out.cell (p:=⟨g,off+j,none⟩) (World.block_lt_of_cell? w _ (hc j hj'))).trans ?_;rw[hc j hj',←hj];simp[bitC,hj']) (by intro u hu;obtain⟨x,_,rfl⟩:=List.mem_map.1 hu;rfl) (by unfold maxLen;omega) (by omega) (by simp)
 have HO:Hid (w'.ownsRow w.heap.size 4 1 v' xs.length (bitC xs)):=by
  show w'.ownsRow _ _ _ _ _ _;rw[Nat.zero_add] at ho;exact ho
 have HB:Hid (Below w.heap.size w w'):=HB0.out.grown hg (by simp) fun b hb=>by simp[Value.ownBlock] at hb;omega
 have hzero:(IntKind.i64.wrap 0)=0:=rfl;clear hc ho hg hob hown HB0;go_enter Tryz.func226,Tryz.ntmps226
 go_wp2_with (at_builtin;refine wpList_append_run _ rfl _ _ 266 rfl _ _ _ w' rfl rfl hr ?_)
 go_ret;exact⟨_,rfl,HO.out,HB.out⟩
structure CopAt (w W : World) (B n m : Nat) (r : Nat → Nat → Bool) : Prop where
 bel:Below w.heap.size w W
 blk:∃cur,W.heap[B]?=some (.cells cur 266 (0,0))∧cur.size=n
 lo:w.heap.size≤B
 rows:∀i,i < m→∃rg rc,W.cell? ⟨B,i,none⟩=some (.slice (some ⟨rg,0,none⟩) n rc)∧w.heap.size≤rg∧rg≠B∧tagD W.heap[rg]?=5∧∀j,j < n→W.cell? ⟨rg,j,none⟩=some (.bool (r i j))
section
variable {w W W' : World} {B n m : Nat} {r : Nat → Nat → Bool}
theorem CopAt.lt (h:CopAt w W B n m r):B < W.heap.size:=by
 obtain⟨_,e,_⟩:=h.blk;exact lt_of_heap e
theorem CopAt.below (h:CopAt w W B n m r) (hb:Below W.heap.size W W'):CopAt w W' B n m r:=by
 refine⟨belJ h.bel hb,?_,h.lo,fun i hi=>?_⟩
 ·obtain⟨cur,e,hs⟩:=h.blk;exact⟨cur,(hb.block B h.lt).trans e,hs⟩
 ·obtain⟨rg,rc,h1,h2,h3,h4,h5⟩:=h.rows i hi;have hl:rg < W.heap.size:=by
   rcases Nat.lt_or_ge rg W.heap.size with h' | h'
   ·exact h'
   ·rw[Array.getElem?_eq_none h'] at h4;cases h4
  exact⟨rg,rc,(hb.cell (p:=⟨B,i,none⟩) h.lt).trans h1,h2,h3,by rw[hb.block rg hl];exact h4,fun j hj=>(hb.cell (p:=⟨rg,j,none⟩) hl).trans (h5 j hj)⟩
theorem CopAt.put (h:CopAt w W B n m r) (hm:m < n) {rg rc:Nat} (h2:w.heap.size≤rg) (h3:rg≠B) (h4:tagD W.heap[rg]?=5) (h5:∀j,j < n→W.cell? ⟨rg,j,none⟩=some (.bool (r m j))):CopAt w (W.setCell ⟨B,m,none⟩ (.slice (some ⟨rg,0,none⟩) n rc)) B n (m+1) r:=by
 obtain⟨cur,e,hs⟩:=h.blk;obtain⟨cur',e',hs'⟩:=heap_setCell e m (.slice (some ⟨rg,0,none⟩) n rc);have hother:∀g,g≠B→(W.setCell ⟨B,m,none⟩ (.slice (some ⟨rg,0,none⟩) n rc)).heap[g]?=W.heap[g]?:=fun g hg=>Below.heap_setCell W ⟨B,m,none⟩ _ g hg
 refine⟨h.bel.setCell (p:=⟨B,m,none⟩) h.lo _,⟨cur',e',by omega⟩,h.lo,fun i hi=>?_⟩;by_cases ei:i=m
 ·subst ei;exact⟨rg,rc,World.cell?_setCell_same' _ _ _ (by rw[cell_of_row _ _ _ _ 266 _ e,Array.getElem?_eq_getElem (by omega)];rfl),h2,h3,by rw[hother rg h3];exact h4,fun j hj=>(World.cell?_of_block (a:=⟨rg,j,none⟩) (hother rg h3)).trans (h5 j hj)⟩
 ·obtain⟨g1,c1,q1,q2,q3,q4,q5⟩:=h.rows i (by omega);exact⟨g1,c1,(World.cell?_setCell_other _ _ _ _ (offNe (Ne.symm ei))).trans q1,q2,q3,by rw[hother g1 q3];exact q4,fun j hj=>(World.cell?_of_block (a:=⟨g1,j,none⟩) (hother g1 q3)).trans (q5 j hj)⟩
theorem CopAt.links (h:CopAt w W B n n r):LnkS W (fun b=>w.heap.size≤b∧LTg W b) (.slice (some ⟨B,0,none⟩) n n) (tabL n r):=by
 obtain⟨cur,e,_⟩:=h.blk;refine⟨_,n,by rw[tabL_len],.inr ⟨B,0,rfl,⟨h.lo,.inl (by rw[e];rfl)⟩,fun i hi=>?_⟩⟩;have hi':i < n:=by rwa [tabL_len] at hi
 obtain⟨rg,rc,h1,h2,h3,h4,h5⟩:=h.rows i hi';refine⟨_,rc,by rw[Nat.zero_add,tabL_row_len];exact h1,.inr ⟨rg,0,rfl,⟨h2,.inr h4⟩,fun j hj=>?_⟩⟩;rw[tabL_at,Nat.zero_add];exact h5 j (by rwa [tabL_row_len] at hj)
end
set_option maxHeartbeats 4000000 in
theorem copied_any (n:Nat) (hn:1≤n∧n≤20) (r:Nat→Nat→Bool) (X:Nat→Prop) (lv:Value) (w:World) (h:LnkS w X lv (tabL n r)):
  Calls Tryz.prog 168 #[lv] w fun e w'=>∃lv',e=.returned lv'∧LnkS w' (fun b=>w.heap.size≤b∧LTg w' b) lv' (tabL n r)∧(∃a n c,lv'=.slice (some a) n c)∧Below w.heap.size w w':=by
 obtain⟨g,off,cap,e0,_⟩:=h.tab (show 0 < n by omega);have HRow:Hid (∀Z,Below w.heap.size w Z→∀i,i < n→∃rg ro rc,Z.cell? ⟨g,off+i,none⟩=some (.slice (some ⟨rg,ro,none⟩) n rc)∧∀j,j < n→Z.cell? ⟨rg,ro+j,none⟩=some (.bool (r i j))):=fun Z hZ i hi=>by
  obtain⟨g',off',cap',e',rg,ro,rc,h1,h2⟩:=(h.below hZ (Nat.le_refl _)).tab hi;rw[e0] at e';cases e';exact⟨rg,ro,rc,h1,h2⟩
 subst e0;have hnil:=nilNeL w ⟨g,off,none⟩ n cap;have hmk:=made_rows w n (by omega);have HC0:Hid (CopAt w (w.alloc (.cells (madeCells #[.slice none 0 0] n) 266)) w.heap.size n 0 r):=
  ⟨belA (Below.refl _ _) _,⟨_,heap_alloc_new w _,by simp[madeCells]⟩,Nat.le_refl _,fun i hi=>absurd hi (by omega)⟩
 clear h;go_enter Tryz.func168,Tryz.ntmps168
 go_wp2;clear hmk hnil;generalize w.alloc _=W1 at HC0 ⊢
 go_loopw [13] (fun v wr=>∃m:Nat,m≤n∧v=.int .i64 m∧CopAt w wr w.heap.size n m r) (fun v _=>n - (intOf v).toNat)
 case atStart=>exact⟨0,Nat.zero_le _,rfl,HC0.out⟩
 case round=>
  clear HC0;obtain⟨m,hm,rfl,hC⟩:=hrel;have HC:=hideIt hC;clear hC;by_cases hmn:m < n
  ·have hmn':(m:Int) < n:=by omega
   obtain⟨rg,ro,rc,h1,h2⟩:=HRow.out wr HC.out.bel m hmn;have hl:((List.range n).map fun j=>r m j).length=n:=by simp
   have HCl:=hideIt (cloneB_any ((List.range n).map fun j=>r m j) (by rw[hl];omega) rg ro rc wr (fun j hj=>by rw[h2 j (by rwa [hl] at hj)];simp));rw[hl] at HCl;clear h2;go_wp2_with fail
   refine HCl.out.mono ?_;clear HCl;rintro e W2 ⟨v,rfl,ho,hb⟩;have HC2:=hideIt (HC.out.below hb);obtain⟨sg,sc,rfl,hsg,htag,hcel⟩:∃sg sc,v=.slice (some ⟨sg,0,none⟩) n sc∧wr.heap.size≤sg∧tagD W2.heap[sg]?=5∧∀j,j < n→W2.cell? ⟨sg,j,none⟩=some (.bool (r m j)):=by
    rcases own_cells ho with ⟨_,e⟩ | ⟨sg,sc,e,_,_,hk⟩
    ·omega
    ·refine⟨sg,sc,e,(ownsRow_block ho sg (by rw[e];rfl)).1,own_tagD ho (by rw[e];rfl),fun j hj=>?_⟩;rw[hk j (by omega)];simp[bitC,hj]
   have hBl:=HC.out.lt;have HP:Hid (CopAt w (W2.setCell ⟨w.heap.size,m,none⟩ (.slice (some ⟨sg,0,none⟩) n sc)) w.heap.size n (m+1) r):=HC2.out.put hmn (by have:=HC.out.bel.size;omega) (by omega) htag hcel;obtain⟨cur,hcb,hcs⟩:=HC2.out.blk;have f1:W2.frozen? ⟨w.heap.size,m,none⟩=false:=frozen_of_row _ _ _ _ 266 hcb;have c1:W2.cell? ⟨w.heap.size,m,none⟩=some cur[m]:=by rw[cell_of_row _ _ _ _ 266 _ hcb,Array.getElem?_eq_getElem (by omega)]
   generalize cur[m]=old at c1;clear hcel htag ho hb HC2 HC hcb hcs hl h1;go_wp2
   go_roundw
   case rel=>exact⟨m+1,by omega,by go_num,HP.out⟩
   case measure=>simp[intOf];omega
  ·obtain rfl:m=n:=by omega
   go_wp2;go_ret;exact⟨_,rfl,HC.out.links,⟨_,_,_,rfl⟩,HC.out.bel⟩
theorem copied_nil (w:World):Calls Tryz.prog 168 #[.slice none 0 0] w fun e w'=>e=.returned (.slice none 0 0)∧w'=w:=by
 have hnil:=nilEqL w;go_enter Tryz.func168,Tryz.ntmps168
 go_wp2;go_ret;exact⟨rfl,rfl⟩
end Go.Proofs.YtjpklmighoondaaGreatDoor.St
namespace Go.Proofs.YtjpklmighoondaaGreatDoor.St
open Go.RowKit
theorem results_cell2 {fn:Func} {p u:Tmp} {ty:TypeId} (h:fn.results=#[.cell p ty,.tmp u]) (tmps:Array Value) (w:World) (g:Nat) (v:Value)
  (hp:tmps.getD p undef=.pointer (some ⟨g,0,none⟩)) (hl:(loadVar ty ⟨g,0,none⟩).run Tryz.prog w=.ok v w):(results fn tmps).run Tryz.prog w=.ok (.tuple #[v,tmps.getD u undef]) w:=by
 rw[results_cell_tmp h];simp only[hp,asAddr,Sem.run_pure,Result.andThen_ok,hl]
theorem loadMq {w:World} {g o:Nat} {m:Mq} (h:w.cell? ⟨g,o,none⟩=some (.int .i64 m.fr)∧w.cell? ⟨g,o+1,none⟩=some (.int .i64 m.tt)∧w.cell? ⟨g,o+2,none⟩=some (.int .i64 m.key)∧w.cell? ⟨g,o+3,none⟩=some (.int .i64 m.rd)∧w.cell? ⟨g,o+4,none⟩=some (.bool m.tells)∧w.cell? ⟨g,o+5,none⟩=some (.int .i64 m.t)∧w.cell? ⟨g,o+6,none⟩=some (.int .i64 m.c)∧w.cell? ⟨g,o+7,none⟩=some (.int .i64 m.v)):(loadVar 202 ⟨g,o,none⟩).run Tryz.prog w=.ok (mqV m) w:=
 run_loadVar_mid w g o 202 (mqC m) _ (fun j y hy=>by
  obtain⟨h0,h1,h2,h3,h4,h5,h6,h7⟩:=h
  match j with
  | 0=>simp[mqC] at hy;subst hy;exact h0
  | 1=>simp[mqC] at hy;subst hy;exact h1
  | 2=>simp[mqC] at hy;subst hy;exact h2
  | 3=>simp[mqC] at hy;subst hy;exact h3
  | 4=>simp[mqC] at hy;subst hy;exact h4
  | 5=>simp[mqC] at hy;subst hy;exact h5
  | 6=>simp[mqC] at hy;subst hy;exact h6
  | 7=>simp[mqC] at hy;subst hy;exact h7
  | j+8=>simp[mqC] at hy) Tryz.underlying202 rfl sizeMq
theorem pwait_any (base B o:Nat) (lv v:Value) (L:List Mq) (w:World) (h:NetP w base B o lv v L):
  Calls Tryz.prog 116 #[.pointer (some ⟨B,o,none⟩)] w fun e w'=>e=.returned (.int .i64 (L.length:Int))∧w'=w:=by
 obtain⟨va,vc,rfl⟩:=h.slice;have c0:=h.c0;clear h;go_enter Tryz.func116,Tryz.ntmps116
 go_wp2;go_ret;exact⟨rfl,rfl⟩
def AtQ (L:List Mq) (i:Int) (w:World) (e:Ending) (w':World):Prop:=
 (((i < 0∨(L.length:Int)≤i)∧e=.returned (.tuple #[mqV mq0,.bool false]))∨∃(k:Nat) (m:Mq),i=k∧L[k]?=some m∧e=.returned (.tuple #[mqV m,.bool true]))∧Below w.heap.size w w'
set_option maxHeartbeats 4000000 in
theorem pat_any (i:Int) (base B o:Nat) (lv v:Value) (L:List Mq) (w:World) (h:NetP w base B o lv v L):
  Calls Tryz.prog 152 #[.pointer (some ⟨B,o,none⟩),.int .i64 i] w fun e w'=>AtQ L i w e w':=by
 have HB0:=hideIt (belA (Below.refl _ w) (.cells #[.int .i64 0,.int .i64 0,.int .i64 0,.int .i64 0,.bool false,.int .i64 0,.int .i64 0,.int .i64 0] 202))
 have HZ:Hid ((w.alloc (.cells #[.int .i64 0,.int .i64 0,.int .i64 0,.int .i64 0,.bool false,.int .i64 0,.int .i64 0,.int .i64 0] 202)).cell? ⟨w.heap.size,0,none⟩=some (.int .i64 0)∧(w.alloc (.cells #[.int .i64 0,.int .i64 0,.int .i64 0,.int .i64 0,.bool false,.int .i64 0,.int .i64 0,.int .i64 0] 202)).cell? ⟨w.heap.size,1,none⟩=some (.int .i64 0)∧(w.alloc (.cells #[.int .i64 0,.int .i64 0,.int .i64 0,.int .i64 0,.bool false,.int .i64 0,.int .i64 0,.int .i64 0] 202)).cell? ⟨w.heap.size,2,none⟩=some (.int .i64 0)∧(w.alloc (.cells #[.int .i64 0,.int .i64 0,.int .i64 0,.int .i64 0,.bool false,.int .i64 0,.int .i64 0,.int .i64 0] 202)).cell? ⟨w.heap.size,3,none⟩=some (.int .i64 0)∧(w.alloc (.cells #[.int .i64 0,.int .i64 0,.int .i64 0,.int .i64 0,.bool false,.int .i64 0,.int .i64 0,.int .i64 0] 202)).cell? ⟨w.heap.size,4,none⟩=some (.bool false)∧(w.alloc (.cells #[.int .i64 0,.int .i64 0,.int .i64 0,.int .i64 0,.bool false,.int .i64 0,.int .i64 0,.int .i64 0] 202)).cell? ⟨w.heap.size,5,none⟩=some (.int .i64 0)∧(w.alloc (.cells #[.int .i64 0,.int .i64 0,.int .i64 0,.int .i64 0,.bool false,.int .i64 0,.int .i64 0,.int .i64 0] 202)).cell? ⟨w.heap.size,6,none⟩=some (.int .i64 0)∧(w.alloc (.cells #[.int .i64 0,.int .i64 0,.int .i64 0,.int .i64 0,.bool false,.int .i64 0,.int .i64 0,.int .i64 0] 202)).cell? ⟨w.heap.size,7,none⟩=some (.int .i64 0)):=blkMq (m:=mq0) (heap_alloc_new w _)
 have HZf:Hid (∀j,(w.alloc (.cells #[.int .i64 0,.int .i64 0,.int .i64 0,.int .i64 0,.bool false,.int .i64 0,.int .i64 0,.int .i64 0] 202)).frozen? ⟨w.heap.size,j,none⟩=false):=fun j=>frozen_of_row _ _ _ _ 202 (heap_alloc_new w _)
 have hW:=h.below HB0.out;have HW:=hideIt hW;clear hW;have hBl:=h.lt;have HV:Hid ((w.alloc (.cells #[.int .i64 0,.int .i64 0,.int .i64 0,.int .i64 0,.bool false,.int .i64 0,.int .i64 0,.int .i64 0] 202)).heap[w.heap.size]?=some (.cells #[.int .i64 0,.int .i64 0,.int .i64 0,.int .i64 0,.bool false,.int .i64 0,.int .i64 0,.int .i64 0] 202 (0,0))):=heap_alloc_new w _;have hbV:=HB0.out;have hsV:(w.alloc (.cells #[.int .i64 0,.int .i64 0,.int .i64 0,.int .i64 0,.bool false,.int .i64 0,.int .i64 0,.int .i64 0] 202)).heap.size=w.heap.size+1:=by simp
 have HSV:=hideIt hsV;clear hsV;by_cases h0:i < 0
 ·have h0':decide (i < 0)=true:=decide_eq_true h0;have H0:=hideIt h0;clear h h0;go_enter Tryz.func152,Tryz.ntmps152
  go_upto_region 1 with fail
  obtain⟨z0,z1,z2,z3,z4,z5,z6,z7⟩:=HZ.out;have fz:=HZf.out;clear hbV;generalize w.alloc (.cells #[.int .i64 0,.int .i64 0,.int .i64 0,.int .i64 0,.bool false,.int .i64 0,.int .i64 0,.int .i64 0] 202)=V at*
  go_wp2;exact bodyPost_ret (results_cell2 rfl _ _ _ _ rfl (loadMq (m:=mq0) (blkMq (m:=mq0) (setMq HV.out)))) rfl ⟨.inl ⟨.inl H0.out,rfl⟩,setMq_bel _ _ _ _ _ _ _ _ HB0.out (Nat.le_refl _)⟩
 have h0':decide (i < 0)=false:=decide_eq_false h0;have HWt:=hideIt (pwait_any base B o lv v L _ HW.out);by_cases h1:(L.length:Int)≤i
 ·have h1':decide (i≥(L.length:Int))=true:=decide_eq_true h1;have H1:=hideIt h1;clear h h1;go_enter Tryz.func152,Tryz.ntmps152
  go_upto_region 1 with fail
  obtain⟨z0,z1,z2,z3,z4,z5,z6,z7⟩:=HZ.out;have fz:=HZf.out;clear hbV;generalize w.alloc (.cells #[.int .i64 0,.int .i64 0,.int .i64 0,.int .i64 0,.bool false,.int .i64 0,.int .i64 0,.int .i64 0] 202)=V at*
  go_wp2_with fail
  refine HWt.out.mono ?_;rintro e w1 ⟨rfl,rfl⟩;go_wp2;exact bodyPost_ret (results_cell2 rfl _ _ _ _ rfl (loadMq (m:=mq0) (blkMq (m:=mq0) (setMq HV.out)))) rfl ⟨.inl ⟨.inr H1.out,rfl⟩,setMq_bel _ _ _ _ _ _ _ _ HB0.out (Nat.le_refl _)⟩
 have h1':decide (i≥(L.length:Int))=false:=decide_eq_false h1;obtain⟨k,rfl⟩:∃k:Nat,i=k:=⟨i.toNat,by omega⟩;have hk:k < L.length:=by omega
 have hkL:(k:Int) < (L.length:Int):=by omega
 obtain⟨g,cap,rfl,hcap,hbg,hcells⟩:=HW.out.at hk;obtain⟨m,hm⟩:∃m,L[k]?=some m:=⟨_,List.getElem?_eq_getElem hk⟩;obtain⟨m0,m1,m2,m3,m4,m5,m6,m7⟩:=hcells m hm;have HM:=hideIt hm;have c0:=HW.out.c0;clear h hcells hm;go_enter Tryz.func152,Tryz.ntmps152
 go_upto_region 1 with fail
 obtain⟨z0,z1,z2,z3,z4,z5,z6,z7⟩:=HZ.out;have fz:=HZf.out;clear hbV;generalize w.alloc (.cells #[.int .i64 0,.int .i64 0,.int .i64 0,.int .i64 0,.bool false,.int .i64 0,.int .i64 0,.int .i64 0] 202)=V at*
 go_wp2_with fail
 refine HWt.out.mono ?_;rintro e w1 ⟨rfl,rfl⟩;go_wp2;exact bodyPost_ret (results_cell2 rfl _ _ _ _ rfl (loadMq (m:=m) (blkMq (m:=m) (setMq HV.out)))) rfl ⟨.inr ⟨k,m,rfl,HM.out,rfl⟩,setMq_bel _ _ _ _ _ _ _ _ HB0.out (Nat.le_refl _)⟩
open Go.RowKit
theorem heap_setCells {g:Nat} {t:TypeId} {fr:Nat×Nat} :∀(vs:List Value) (o:Nat) (w:World) (cur:Array Value),w.heap[g]?=some (.cells cur t fr)→∃cur',(w.setCells g o vs).heap[g]?=some (.cells cur' t fr)∧cur'.size=cur.size
 | [],_,_,cur,h=>⟨cur,h,rfl⟩
 | v::r,o,w,cur,h=>by
  obtain⟨c1,h1,e1⟩:=heap_setCell h o v;obtain⟨c2,h2,e2⟩:=heap_setCells r (o+1) _ c1 h1;exact⟨c2,h2,e2.trans e1⟩
theorem grown_setCells (g:Nat):∀(vs:List Value) (o:Nat) (w:World),w.grownBy (w.setCells g o vs) (some g)
 | [],_,w=>World.grownBy.refl w _
 | v::r,o,w=>(grown_setCell w ⟨g,o,none⟩ v).trans (grown_setCells g r (o+1) _)
theorem owns_of_cells {w:World} {base g cap N e n:Nat} {cur:Array Value} {xs:List Value} (hb:base≤g) (hg:w.heap[g]?=some (.cells cur e (0,0))) (h1:N≤cap) (h2:cap≤maxLen) (h3:cur.size=cap*n) (hl:xs.length=N*n) (hc:∀j,j < N*n→w.cell? ⟨g,j,none⟩=xs[j]?):
  w.ownsRow base e n (.slice (some ⟨g,0,none⟩) N cap) N xs:=by
 refine⟨hl,.inr ⟨g,cap,cur,rfl,hb,hg,h1,h2,h3,?_⟩⟩
 apply List.ext_getElem?
 intro j;by_cases hj:j < N*n
 ·rw[List.getElem?_take_of_lt hj,←hc j hj,cell_of_row _ _ _ _ e _ hg,Array.getElem?_toList]
 ·rw[List.getElem?_eq_none (by rw[List.length_take];omega),List.getElem?_eq_none (by omega)]
theorem run_clear_one {P:Program} (w:World) (t e ty:TypeId) (z:Value) (ht:P.underlying t=some (.slice e)) (hv:∀w,(zeroValue e).run P w=.ok z w) (h1:∀u∈z.cells.toList,u.oneCell'=true) (b o c:Nat)
  (hc:∀j,j < z.cells.size→(w.cell? ⟨b,o+j,none⟩).isSome=true) (hf:∀j,j < z.cells.size→w.frozen? ⟨b,o+j,none⟩=false):
  (Builtin.clear_ #[t] ty #[.slice (some ⟨b,o,none⟩) 1 c]).run P w=.ok (.tuple #[]) (w.setCells b o z.cells.toList):=by
 have hzc:(Builtin.zeroCells z.cells 1).toList=z.cells.toList:=by
  simp[Builtin.zeroCells]
  apply List.ext_getElem
  ·simp
  ·intro i h1 h2;simp at h1;simp[Nat.mod_eq_of_lt h1,h1]
 have hst:=run_storeCells_cells (P:=P) b o z.cells.toList 0 w (by simpa using hc) (by simpa using hf) h1;simp only[Nat.add_zero] at hst;simp[Builtin.clear_,run_underlying ht,hv,hzc,hst]
theorem zeroMq (w:World):(zeroValue 202).run Tryz.prog w=.ok (.agg #[.int .i64 0,.int .i64 0,.int .i64 0,.int .i64 0,.bool false,.int .i64 0,.int .i64 0,.int .i64 0]) w:=by kernel_rfl
def endA (g cap k:Nat):Addr:=if cap=k then⟨g,0,none⟩ else⟨g,k*8,none⟩
theorem mqCs_erase {L:List Mq} {k:Nat} (hk:k < L.length) (j:Nat):(mqCs (L.eraseIdx k))[j]?=if j < k*8 then (mqCs L)[j]? else (mqCs (L.drop (k+1)))[j - k*8]?:=by
 have hl:(mqCs (L.take k)).length=k*8:=by rw[mqCs_len,List.length_take];congr 1;omega
 rw[List.eraseIdx_eq_take_drop_succ,mqCs_app];by_cases h:j < k*8
 ·rw[if_pos h,List.getElem?_append_left (by omega)]
  conv=>rhs;rw[←List.take_append_drop k L,mqCs_app]
  rw[List.getElem?_append_left (by omega)]
 ·rw[if_neg h,List.getElem?_append_right (by omega),hl]
def DelQ (base:Nat) (v:Value) (L:List Mq) (k:Nat) (w:World) (e:Ending) (w':World):Prop:=
 ∃v',e=.returned v'∧w.grownBy w' v.ownBlock∧w'.ownsRow base 202 8 v' (L.eraseIdx k).length (mqCs (L.eraseIdx k))∧v'.ownBlock=v.ownBlock
theorem rest_cells {w:World} {base g cap:Nat} {L:List Mq} {k:Nat} (hk:k < L.length) (h:w.ownsRow base 202 8 (.slice (some ⟨g,0,none⟩) L.length cap) L.length (mqCs L)) (hc:L.length≤cap):∀j u,(mqCs (L.drop (k+1)))[j]?=some u→w.cell? ((endA g cap (k+1)).add j)=some u:=fun j u hj=>by
 have hl:(mqCs (L.drop (k+1))).length=(L.length - (k+1))*8:=by rw[mqCs_len,List.length_drop]
 have hj':=(List.getElem?_eq_some_iff.1 hj).1;by_cases e:cap=k+1
 ·rw[hl,show L.length - (k+1)=0 by omega] at hj';omega
 ·unfold endA;rw[if_neg e,Addr.add_lit];have:=h.cells (g:=g) rfl _ _ (mqCs_drop (by omega) hj)
  rwa [Addr.add_lit,Nat.zero_add] at this
set_option maxHeartbeats 4000000 in
theorem pdel_any (k:Nat) (base:Nat) (v:Value) (L:List Mq) (hL:L.length≤500) (hk:k < L.length) (w:World) (h:w.ownsRow base 202 8 v L.length (mqCs L)):
  Calls Tryz.prog 160 #[v,.int .i64 (k:Int),.int .i64 ((k:Int)+1)] w fun e w'=>DelQ base v L k w e w':=by
 obtain⟨g,cap,cur,rfl,hbg,hgc,hnc,hcm,hcs,hcx⟩:∃g cap cur,v=.slice (some ⟨g,0,none⟩) L.length cap∧base≤g∧w.heap[g]?=some (.cells cur 202 (0,0))∧L.length≤cap∧cap≤maxLen∧cur.size=cap*8∧cur.toList.take (L.length*8)=mqCs L:=by
  rcases h.2 with ⟨_,e⟩ | h
  ·omega
  ·exact h
 obtain⟨inf,i1,i2,i3,i4⟩:=info_parts' infoMq;have HO:=hideIt h;have HNw:Hid (∀j u,(mqCs (L.drop (k+1)))[j]?=some u→w.drew.cell? ((endA g cap (k+1)).add j)=some u):=rest_cells hk h hnc;have hnl:(mqCs (L.drop (k+1))).length=(L.length - (k+1))*8:=by rw[mqCs_len,List.length_drop]
 have hsome:∀(W:World) (cu:Array Value),W.heap[g]?=some (.cells cu 202 (0,0))→cu.size=cap*8→∀j,j < cap*8→(W.cell? ⟨g,j,none⟩).isSome=true:=fun W cu hW hs j hj=>by
  rw[cell_of_row _ _ _ _ 202 _ hW,Array.getElem?_eq_getElem (by omega)];rfl
 have hrun:∀ty,(Builtin.append_ #[103,103] ty #[.slice (some ⟨g,0,none⟩) k cap,.slice (some (endA g cap (k+1))) (L.length - (k+1)) (cap - (k+1))]).run Tryz.prog w.drew=.ok (.slice (some ⟨g,0,none⟩) (k+(L.length - (k+1))) cap) (w.drew.setCells g (0+k*inf.size) (mqCs (L.drop (k+1)))):=fun ty=>
  run_append_room_cells w.drew 103 ty 202 inf Tryz.underlying103 i1 g 0 k cap (endA g cap (k+1)) (L.length - (k+1)) (cap - (k+1)) (mqCs (L.drop (k+1))) (by rw[i3];exact hnl) HNw.out (fun u hu=>mqCs_ones hu) (by omega) (fun j hj=>by rw[i3];exact hsome w.drew cur hgc hcs _ (by omega)) (fun j _=>frozen_of_row _ _ _ _ 202 hgc)
 rw[i3,Nat.zero_add] at hrun;have HRun:=hideIt hrun;obtain⟨c1,hc1,hs1⟩:=heap_setCells (mqCs (L.drop (k+1))) (k*8) w.drew cur hgc;have HW1:Hid (w.grownBy (w.drew.setCells g (k*8) (mqCs (L.drop (k+1)))) (some g)):=((grown_drew w).but _).trans (grown_setCells g _ _ _);have HC1:Hid (∀j,j < (L.length - 1)*8→(w.drew.setCells g (k*8) (mqCs (L.drop (k+1)))).cell? ⟨g,j,none⟩=(mqCs (L.eraseIdx k))[j]?):=fun j hj=>by
  rw[mqCs_erase hk];by_cases hjk:j < k*8
  ·rw[if_pos hjk,World.cell?_setCells_out g _ _ _ ⟨g,j,none⟩ (fun _ _=>.inl hjk)];rcases own_cells HO.out with ⟨e,_⟩ | ⟨g',cap',e,_,_,hh⟩
   ·cases e
   ·cases e;exact hh j (by omega)
  ·rw[if_neg hjk];have hj2:j - k*8 < (mqCs (L.drop (k+1))).length:=by omega
   have:=World.cell?_setCells_in g (mqCs (L.drop (k+1))) (k*8) w.drew (fun i hi=>hsome w.drew cur hgc hcs _ (by omega)) (j - k*8) hj2;rw[show k*8+(j - k*8)=j by omega] at this;rw[this,List.getElem?_eq_getElem hj2]
 have e1:k+(L.length - (k+1))=L.length - 1:=by omega
 rw[e1] at HRun;generalize w.drew.setCells g (k*8) (mqCs (L.drop (k+1)))=W1 at*
 have hN:(L.eraseIdx k).length=L.length - 1:=List.length_eraseIdx_of_lt hk;have hclr:(Builtin.clear_ #[103] 0 #[.slice (some ⟨g,(L.length - 1)*8,none⟩) 1 (cap - (L.length - 1))]).run Tryz.prog W1=.ok (.tuple #[]) (W1.setCells g ((L.length - 1)*8) [.int .i64 0,.int .i64 0,.int .i64 0,.int .i64 0,.bool false,.int .i64 0,.int .i64 0,.int .i64 0]):=
  run_clear_one W1 103 202 0 (.agg #[.int .i64 0,.int .i64 0,.int .i64 0,.int .i64 0,.bool false,.int .i64 0,.int .i64 0,.int .i64 0]) Tryz.underlying103 zeroMq (by simp[Value.cells,Value.oneCell']) g _ _ (fun j hj=>hsome W1 c1 hc1 (by omega) _ (by simp[Value.cells] at hj;omega)) (fun j _=>frozen_of_row _ _ _ _ 202 hc1)
 obtain⟨c2,hc2,hs2⟩:=heap_setCells [.int .i64 0,.int .i64 0,.int .i64 0,.int .i64 0,.bool false,.int .i64 0,.int .i64 0,.int .i64 0] ((L.length - 1)*8) W1 c1 hc1;have HEnd:Hid (DelQ base (.slice (some ⟨g,0,none⟩) L.length cap) L k w (.returned (.slice (some ⟨g,0,none⟩) (L.length - 1) cap)) (W1.setCells g ((L.length - 1)*8) [.int .i64 0,.int .i64 0,.int .i64 0,.int .i64 0,.bool false,.int .i64 0,.int .i64 0,.int .i64 0])):=
  ⟨_,rfl,HW1.out.trans (grown_setCells g _ _ _),by rw[hN];exact owns_of_cells hbg hc2 (by omega) hcm (by omega) (by rw[mqCs_len,hN]) (fun j hj=>by rw[World.cell?_setCells_out g _ _ _ ⟨g,j,none⟩ (fun _ _=>.inl hj)];exact HC1.out j hj),rfl⟩
 generalize DelQ base (.slice (some ⟨g,0,none⟩) L.length cap) L k w=Q at*
 have q1:(k:Int)+1≤(L.length:Int):=by omega
 have q2:(L.length:Int)≤(cap:Int):=by omega
 have q3:(0:Int)≤(k:Int)+1:=by omega
 have q4:((k:Int)==(k:Int)+1)=false:=by simp;omega
 have q5:(k:Int)≤(cap:Int):=by omega
 have q6:(k:Int)≤(k:Int)+1:=by omega
 have q7:(k:Int)+1≤(cap:Int):=by omega
 have q8:((k:Int)+1).toNat=k+1:=by omega
 have q9:((L.length:Int)).toNat=L.length:=by omega
 clear HW1 HC1 hsome hgc hcs hcx hc1 hs1 hc2 hs2 HNw hnl hN HO h i1 i2 i3 i4 e1 hbg;go_enter Tryz.func160,Tryz.ntmps160
 go_upto_region 5 with fail
 refine wp_region_L (B:= [6]) (S:=fun _=>True) (T:=fun _=>True) (by kernel_rfl) ⟨trivial,trivial⟩ (fun hHeld=>?_);refine tkS 0 ?_ rfl ?_ ?_;rotate_left 1
 ·intro wz _;go_simp;all_goals with_reducible rfl
 simp only[Act.put,p1,p2,p3,p4,p5];refine tkS 1 ?_ rfl ?_ ?_;rotate_left 1
 ·intro wz _;go_simp;all_goals with_reducible rfl
 simp only[Act.put,p1,p2,p3,p4,p5,p6];refine tkS 2 ?_ rfl ?_ ?_;rotate_left 1
 ·intro wz _;go_simp;all_goals with_reducible rfl
 simp only[Act.put,p1,p2,p3,p4,p5,p6];refine tkS 3 ?_ rfl ?_ ?_;rotate_left 1
 ·intro wz _;go_simp;all_goals with_reducible rfl
 simp only[Act.put,p1,p2,p3,p4,p5,p6];refine tkS 4 ?_ rfl ?_ ?_;rotate_left 1
 ·intro wz _;go_simp;all_goals with_reducible rfl
 simp only[Act.put,p1,p2,p3,p4,p5,p6];refine tkS 5 ?_ rfl ?_ ?_;rotate_left 1
 ·intro wz _;go_simp;all_goals with_reducible rfl
 simp only[Act.put,p1,p2,p3,p4,p5,p6];have hif:(if cap=k+1 then some (⟨g,0,none⟩:Addr) else some ⟨g,(k+1)*8,none⟩)=some (endA g cap (k+1)):=by unfold endA;split<;>rfl
 rw[hif];refine wpAnyL_ready (rs:= [6]) (by kernel_rfl) (by simp) (AllReadyL.last rfl (by kernel_rfl) (fun K hK=>?_) AllReadyL.nil);refine step_append_run (by rfl) _ _ 103 rfl _ _ _ W1 rfl rfl (HRun.out _) ?_;simp only[Act.put,List.setIfInBounds_toArray];refine hK.out _ _ trivial (fun _=>?_);clear hK K hHeld hif HRun hrun q1 q3 q4 q5 q6 q7 q8;refine tkE 7 ?_ rfl ?_ ?_;rotate_left 1
 ·intro wz _;go_simp;all_goals with_reducible rfl
 simp only[Act.put,p1,p2,p3,p4,p5,p6];refine wpAnyL_done (by kernel_rfl) ?_ _;have r1:(L.length - 1:Nat)≤L.length:=by omega
 have r2:(((L.length - 1:Nat):Int))≤(L.length:Int):=by omega
 have r3:¬cap=L.length - 1:=by omega
 have r4:L.length - (L.length - 1)=1:=by omega
 have HE2:=hideIt HEnd.out;clear HEnd;generalize L.length - 1=N at*
 go_wp2;exact HE2.out
open Go.RowKit
def DropQ (base B o:Nat) (v:Value) (L:List Mq) (i:Int) (w:World) (e:Ending) (w':World):Prop:=
 ((i < 0∨(L.length:Int)≤i)∧e=.returned (.iface 55 (.int .i64 8))∧Below w.heap.size w w')∨
 (∃(k:Nat) (m:Mq),i=k∧L[k]?=some m∧e=.returned .nilIface∧MailTold base B o v (L.eraseIdx k) w w')
set_option maxHeartbeats 4000000 in
theorem pdrop_any (i:Int) (base B o:Nat) (lv v:Value) (L:List Mq) (hL:L.length≤500) (w:World) (h:NetP w base B o lv v L):
  Calls Tryz.prog 106 #[.pointer (some ⟨B,o,none⟩),.int .i64 i] w fun e w'=>DropQ base B o v L i w e w':=by
 have HN:=hideIt h;have HA:=hideIt (pat_any i base B o lv v L w h);clear h;go_enter Tryz.func106,Tryz.ntmps106
 go_wp2_with fail
 refine HA.out.mono ?_;clear HA;rintro e W1 ⟨(⟨hi,rfl⟩ | ⟨k,m,rfl,hm,rfl⟩),hb⟩
 ·have HI:=hideIt hi;have HB:=hideIt hb;unfold mqV mq0;clear hi hb;go_wp2;go_ret;exact .inl ⟨HI.out,rfl,by first | exact belA HB.out _ | (have:=belA HB.out (.cells #[.int .i64 0,.int .i64 0,.int .i64 0,.int .i64 0,.bool false,.int .i64 0,.int .i64 0,.int .i64 0] 202);exact this)⟩
 ·have HM:=hideIt hm;have hk:k < L.length:=(List.getElem?_eq_some_iff.1 hm).1;have HB1:=hideIt (belA hb (.cells #[.int .i64 m.fr,.int .i64 m.tt,.int .i64 m.key,.int .i64 m.rd,.bool m.tells,.int .i64 m.t,.int .i64 m.c,.int .i64 m.v] 202));have hP:=HN.out.below HB1.out;have HP:=hideIt hP;have hwk:IntKind.i64.wrap ((k:Int)+1)=(k:Int)+1:=IntWalk.i64_in _ (by omega);have HD:=hideIt (pdel_any k base v L hL hk _ hP.row);have c0:=hP.c0;have HBs:=hideIt hb.size;clear hP hm hb;unfold mqV;go_wp2_with fail
  refine HD.out.mono ?_;clear HD;rintro e W2 ⟨v',rfl,hg,ho,hob⟩;obtain⟨a6,cap6,rfl⟩:=ownsRow_slice ho;have eB:W2.heap[B]?=_:=hg.block B HP.out.lt (fun e=>HN.out.ne e.symm);have c6:W2.cell? ⟨B,o,none⟩=some v:=(World.cell?_of_block (a:=⟨B,o,none⟩) eB).trans HP.out.c0;have f6:W2.frozen? ⟨B,o,none⟩=false:=(World.frozen?_of_block (a:=⟨B,o,none⟩) eB).trans HP.out.f0;have HG:Hid (MailTold base B o v (L.eraseIdx k) w (W2.setCell ⟨B,o,none⟩ (.slice a6 (L.eraseIdx k).length cap6))):=
   ⟨_,MailT.of HN.out (((grown_below HB1.out).but _).trans hg) ho (.inl hob)⟩
  clear hg ho hob eB HP HB1 c0 HBs HN;generalize (L.eraseIdx k).length=N6 at*
  go_wp2;go_ret;exact .inr ⟨k,m,rfl,HM.out,rfl,HG.out⟩
end Go.Proofs.YtjpklmighoondaaGreatDoor.St
