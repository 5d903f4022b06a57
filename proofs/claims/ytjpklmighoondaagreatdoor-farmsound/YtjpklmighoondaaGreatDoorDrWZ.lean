/-
  Package net's draw, walked.
  The program's net, walked: who can talk (let).
  slices.Clone at a row, and the links' own copy, walked.
  The program's net, walked: Waiting, At.
-/
import Derived.Test.YtjpklmighoondaaGreatDoorMnZ
import Derived.Test.YtjpklmighoondaaGreatDoorToldPZ
import Derived.Test.YtjpklmighoondaaGreatDoorNpMZ
import Derived.ArgAppend
namespace Go.Proofs.YtjpklmighoondaaGreatDoor.St
open Go.RowKit
def midB (A:Nat→Nat→Bool) (m k:Nat):Nat→Nat→Bool:=fun a b=>if a=m∧k≤b then false else A a b
theorem midB_put (A:Nat→Nat→Bool) (m k:Nat) (x:Bool) (h:A m k=x) (a b:Nat):(if a=m∧b=k then x else midB A m k a b)=midB A m (k+1) a b:=by
 unfold midB;by_cases e:a=m∧b=k
 ·obtain⟨rfl,rfl⟩:=e;rw[if_pos ⟨rfl,rfl⟩,if_neg (by omega),h]
 ·rw[if_neg e];by_cases e':a=m∧k+1≤b
  ·rw[if_pos (by omega),if_pos e']
  ·rw[if_neg (by omega),if_neg e']
theorem midB_end (A:Nat→Nat→Bool) (m n a b:Nat) (hb:b < n):midB A m n a b=A a b:=by
 unfold midB;rw[if_neg (by omega)]
theorem MatAt.links {w:World} {base B n:Nat} {rb:Nat→Nat} {M:Nat→Nat→Bool} (h:MatAt w base B n n rb M):LnkS w (fun b=>base≤b∧LTg w b) (.slice (some ⟨B,0,none⟩) n n) (tabL n M):=by
 refine⟨_,n,by rw[tabL_len],.inr ⟨B,0,rfl,⟨h.lo,.inl (by obtain⟨_,e⟩:=h.blk;rw[e];rfl)⟩,fun i hi=>?_⟩⟩;have hi':i < n:=by rwa [tabL_len] at hi
 refine⟨_,n,by rw[Nat.zero_add,tabL_row_len];exact h.head i hi',.inr ⟨rb i,0,rfl,⟨(h.from_ i hi').1,.inr (by obtain⟨_,e⟩:=(h.row i hi').blk;rw[e];rfl)⟩,fun j hj=>?_⟩⟩;rw[tabL_at,Nat.zero_add];exact(h.row i hi').bit j (by rwa [tabL_row_len] at hj)
def DrawTold (w:World) (n:Nat) (r:Nat→Nat→Bool) (e:Ending) (w':World):Prop:=∃lv,e=.returned (.tuple #[lv,.nilIface])∧LnkS w' (fun b=>w.heap.size≤b∧LTg w' b) lv (tabL n r)∧Below w.heap.size w w'
set_option maxRecDepth 100000 in
theorem draw_bad (x:Int) (F:Value) (hx:x < 1∨7 < x) (w:World):Calls Tryz.prog 162 #[.int .i64 x,F] w fun e w'=>e=.returned (.tuple #[.slice none 0 0,.iface 55 (.int .i64 4)])∧w'=w:=by
 rcases hx with hx | hx
 ·have h1:decide (x < 1)=true:=decide_eq_true hx;go_enter Tryz.func162,Tryz.ntmps162
  go_wp2;go_ret2;exact⟨rfl,rfl⟩
 ·have h1:decide (x < 1)=false:=decide_eq_false (by omega);have h2:decide (x > 7)=true:=decide_eq_true hx;go_enter Tryz.func162,Tryz.ntmps162
  go_wp2;go_ret2;exact⟨rfl,rfl⟩
set_option maxRecDepth 100000 in
set_option maxHeartbeats 4000000 in
theorem draw_any (n:Nat) (hn:1≤n∧n≤7) (f:Nat) (caps:Array Value) (r:Nat→Nat→Bool) (w:World) (hF:RuleQ w f caps n r) (eg:∀args w,(callFunc f args).run Tryz.prog w=.ok (.enter f args) w):
  Calls Tryz.prog 162 #[.int .i64 (n:Int),.func (.func f) #[] caps] w fun e w'=>DrawTold w n r e w':=by
 have HF:=hideIt hF;clear hF;have h1:decide ((n:Int) < 1)=false:=decide_eq_false (by omega);have h2:decide ((n:Int) > 7)=false:=decide_eq_false (by omega);have hmk:=made_rows w n (by omega);have HM0:Hid (MatAt (w.alloc (.cells (madeCells #[.slice none 0 0] n) 266)) w.heap.size w.heap.size n 0 (fun _=>0) r):=(mat_made w n).same fun i k hi=>absurd hi (by omega)
 have HB0:Hid (Below w.heap.size w (w.alloc (.cells (madeCells #[.slice none 0 0] n) 266))):=belA (Below.refl _ _) _;go_enter Tryz.func162,Tryz.ntmps162
 go_wp2;clear h1 h2 hmk;generalize w.alloc _=W1 at HM0 HB0 ⊢
 go_loopw [20] (fun v wr=>∃(m:Nat) (cb:Nat→Nat),m≤n∧v=.int .i64 m∧MatAt wr w.heap.size w.heap.size n m cb r∧Below w.heap.size w wr) (fun v _=>n - (intOf v).toNat)
 case atStart=>exact⟨0,_,Nat.zero_le _,rfl,HM0.out,HB0.out⟩
 case round=>
  clear HM0 HB0 W1;obtain⟨m,cb,hm,rfl,hM,hb⟩:=hrel;have HM:=hideIt hM;have HB:=hideIt hb;clear hM hb;by_cases hmn:m < n
  ·have hmn':(m:Int) < n:=by omega
   have hmk:=made_bits wr n (by omega);have HMa:=hideIt (HM.out.alloc (.cells (madeCells #[.bool false] n) 4));have HN1:=hideIt (bits_made wr n);have hBl:=HM.out.lt;have hBs:=HB.out.size;obtain⟨ov,hov⟩:=HMa.out.room m hmn;have hfz:=HMa.out.fz m;have HB1:Hid (Below w.heap.size w ((wr.alloc (.cells (madeCells #[.bool false] n) 4)).setCell ⟨w.heap.size,m,none⟩ (.slice (some ⟨wr.heap.size,0,none⟩) n n))):=(belA HB.out _).setCell (p:=⟨w.heap.size,m,none⟩) (Nat.le_refl _) _;have HM2:Hid (MatAt ((wr.alloc (.cells (madeCells #[.bool false] n) 4)).setCell ⟨w.heap.size,m,none⟩ (.slice (some ⟨wr.heap.size,0,none⟩) n n)) w.heap.size w.heap.size n (m+1) (fun i=>if i=m then wr.heap.size else cb i) (midB r m 0)):=
    (HMa.out.add hmn HN1.out hBs (by omega) (fun i hi=>Nat.ne_of_lt (HM.out.row i hi).lt)).same fun i k _ _=>by
     unfold midB;by_cases e:i=m
     ·rw[if_pos e,if_pos ⟨e,Nat.zero_le _⟩]
     ·rw[if_neg e,if_neg (fun h=>e h.1)]
   rw[World.setCell_alloc_past _ _ _ _ hBl] at HM2 HB1;have hc2:=HM2.out.head m (Nat.lt_succ_self m);rw[if_pos rfl] at hc2;clear HMa HN1 HM;go_wp2;clear hmk hov hfz hc2;generalize (wr.setCell _ _).alloc _=W2 at HB1 HM2 ⊢;obtain⟨cb1,HM2⟩:∃cb1,Hid (MatAt W2 w.heap.size w.heap.size n (m+1) cb1 (midB r m 0)):=⟨_,HM2⟩;clear HB hBl hBs
   go_loopw [33] (fun v wz=>∃k:Nat,k≤n∧v=.int .i64 k∧MatAt wz w.heap.size w.heap.size n (m+1) cb1 (midB r m k)∧Below w.heap.size w wz) (fun v _=>n - (intOf v).toNat)
   case atStart=>exact⟨0,Nat.zero_le _,rfl,HM2.out,HB1.out⟩
   case round=>
    clear HM2 HB1;obtain⟨k,hk,rfl,hM,hb⟩:=hrel;have HM:=hideIt hM;have HB:=hideIt hb;clear hM hb;by_cases hkn:k < n
    ·have hkn':(k:Int) < n:=by omega
     have hge:=(HM.out.from_ m (by omega)).1;have HPut:Hid (∀Z:World,Below wr.heap.size wr Z→(MatAt (Z.setCell ⟨cb1 m,k,none⟩ (.bool (r m k))) w.heap.size w.heap.size n (m+1) cb1 (midB r m (k+1))∧Below w.heap.size w (Z.setCell ⟨cb1 m,k,none⟩ (.bool (r m k))))∧Z.cell? ⟨cb1 m,k,none⟩=some (.bool (midB r m k m k))∧Z.frozen? ⟨cb1 m,k,none⟩=false):=fun Z hZ=>
      ⟨⟨((HM.out.below hZ).put (by omega) hkn _).same fun i b _ _=>midB_put r m k _ rfl i b,(belJ HB.out hZ).setCell (p:=⟨cb1 m,k,none⟩) hge _⟩,((HM.out.below hZ).row m (by omega)).bit k hkn,((HM.out.below hZ).row m (by omega)).fz k⟩
     have HC0:Hid (∀Z,Below wr.heap.size wr Z→Z.cell? ⟨w.heap.size,m,none⟩=some (.slice (some ⟨cb1 m,0,none⟩) n n)):=fun Z hZ=>(HM.out.below hZ).head m (by omega)
     have HFk:Hid (∀Z,Below wr.heap.size wr Z→Calls Tryz.prog f (#[.int .i64 (m:Int),.int .i64 (k:Int)]++caps) Z fun e w'=>e=.returned (.bool (r m k))∧w'=Z):=fun Z hZ=>HF.out Z (belJ HB.out hZ) m k hmn hkn
     go_wp2_with fail
     refine wp_region_L (B:= [10]) (S:=fun _=>True) (T:=fun Z=>Below wr.heap.size wr Z) (by kernel_rfl) ⟨trivial,(Below.refl _ _).drew⟩ (fun hHeld=>?_);refine tkS 0 ?_ rfl ?_ ?_;rotate_left 1
     ·intro wz _;go_simp;all_goals with_reducible rfl
     simp only[Act.put,p1,p2,p3,p4,p5];refine tkS 1 ?_ rfl ?_ ?_;rotate_left 1
     ·intro wz _;go_simp;all_goals with_reducible rfl
     simp only[Act.put,p1,p2,p3,p4,p5,p6];refine tkS 2 ?_ rfl ?_ ?_;rotate_left 1
     ·intro wz _;go_simp;all_goals with_reducible rfl
     simp only[Act.put,p1,p2,p3,p4,p5,p6];refine tkL [9,10] 3 ?_ rfl ?_ ?_;rotate_left 1
     ·intro wz sb;have y0:=HC0.out wz sb.2;go_simp;all_goals with_reducible rfl
     simp only[Act.put,p1,p2,p3,p4,p5,p6];refine tkS 4 ?_ rfl ?_ ?_;rotate_left 1
     ·intro wz _;go_simp;all_goals with_reducible rfl
     simp only[Act.put,p1,p2,p3,p4,p5,p6];refine tkS 5 ?_ rfl ?_ ?_;rotate_left 1
     ·intro wz _;go_simp;all_goals with_reducible rfl
     simp only[Act.put,p1,p2,p3,p4,p5,p6];refine tkS 6 ?_ rfl ?_ ?_;rotate_left 1
     ·intro wz _;go_simp;all_goals with_reducible rfl
     simp only[Act.put,p1,p2,p3,p4,p5,p6];refine tkS 7 ?_ rfl ?_ ?_;rotate_left 1
     ·intro wz _;go_simp;all_goals with_reducible rfl
     simp only[Act.put,p1,p2,p3,p4,p5,p6];have egk:=eg (#[.int .i64 (m:Int),.int .i64 (k:Int)]++caps) wr.drew;refine wpAnyL_ready (rs:= [8]) (by kernel_rfl) (by simp) (AllReadyL.cons rfl (fun K hK=>?_) AllReadyL.nil);go_simp;refine(HFk.out _ hHeld.2).mono ?_;rintro e V3 ⟨rfl,rfl⟩;refine hK.out _ _ ⟨trivial,hHeld.2⟩ (fun hHeld=>?_);clear hK K;refine tkS 9 ?_ rfl ?_ ?_;rotate_left 1
     ·intro wz _;go_simp;all_goals with_reducible rfl
     simp only[Act.put,p1,p2,p3,p4,p5,p6];obtain⟨hp1,hp2,hp3⟩:=HPut.out _ hHeld.2;have R1:=hideIt hp1;clear hp1 HPut HC0 HFk;generalize midB r m k m k=old at hp2;refine wpAnyL_ready (rs:= [10]) (by kernel_rfl) (by simp) (AllReadyL.last rfl (by kernel_rfl) (fun K hK=>?_) AllReadyL.nil);go_simp;refine hK.out _ _ trivial (fun _=>?_);clear hK K hHeld;refine wpAnyL_done (by kernel_rfl) ?_ _;go_wp2
     go_roundw
     case rel=>exact⟨k+1,by omega,by go_num,R1.out⟩
     case measure=>simp[intOf];omega
    ·obtain rfl:k=n:=by omega
     have R1:Hid (MatAt wr w.heap.size w.heap.size k (m+1) cb1 r):=HM.out.same fun i b _ hb=>midB_end _ _ _ _ _ hb
     go_wp2
     go_roundw
     case rel=>exact⟨m+1,cb1,by omega,by go_num,R1.out,HB.out⟩
     case measure=>simp[intOf];omega
  ·obtain rfl:m=n:=by omega
   go_wp2;go_ret2;exact⟨_,rfl,HM.out.links,HB.out⟩
open Go.RowKit
def letL (nil:Bool) (M:List (List Bool)) (a b:Int):Bool:=
 if nil=true then true else if 0≤a∧0≤b then ((M[a.toNat]?).bind fun r=>r[b.toNat]?).getD false else false
theorem nilEqL (w:World):(binOp .eql 105 (.slice none 0 0) (.slice none 0 0)).run Tryz.prog w=.ok (.bool true) w:=by kernel_rfl
theorem nilNeL (w:World) (a:Addr) (n c:Nat):(binOp .eql 105 (.slice (some a) n c) (.slice none 0 0)).run Tryz.prog w=.ok (.bool false) w:=by kernel_rfl
def LnkN (w:World) (X:Nat→Prop) (lv:Value) (nil:Bool) (M:List (List Bool)):Prop:=(nil=true∧lv=.slice none 0 0)∨(nil=false∧LnkS w X lv M∧∃a n c,lv=.slice (some a) n c)
theorem LnkN.keep {w w':World} {X:Nat→Prop} {lv:Value} {nil:Bool} {M:List (List Bool)} (h:LnkN w X lv nil M) (hk:∀b,b < w.heap.size→X b→w'.heap[b]?=w.heap[b]?):LnkN w' X lv nil M:=
 h.imp id fun⟨e,h1,h2⟩=>⟨e,h1.keep hk,h2⟩
theorem LnkN.below {w w':World} {X:Nat→Prop} {lv:Value} {nil:Bool} {M:List (List Bool)} (h:LnkN w X lv nil M) (hb:Below w.heap.size w w'):LnkN w' X lv nil M:=
 h.keep fun b hl _=>hb.block b hl
set_option maxRecDepth 100000 in
set_option maxHeartbeats 4000000 in
theorem plet_any (x y:Int) (X:Nat→Prop) (lv:Value) (nil:Bool) (M:List (List Bool)) (w:World) (h:LnkN w X lv nil M):
  Calls Tryz.prog 153 #[lv,.int .i64 x,.int .i64 y] w fun e w'=>e=.returned (.bool (letL nil M x y))∧w'=w:=by
 rcases h with ⟨rfl,rfl⟩ | ⟨rfl,hl,la,ln,lc,rfl⟩
 ·have hn:=nilEqL w;go_enter Tryz.func153,Tryz.ntmps153
  go_wp2;go_ret;exact⟨ret_bool rfl,rfl⟩
 have hn:=nilNeL w la ln lc;obtain⟨a0,cap0,e0,hr⟩:=hl;cases e0;by_cases hx:0≤x
 ·have hx':decide (x≥0)=true:=decide_eq_true hx;by_cases hxl:x < M.length
  ·have hxl':decide (x < (M.length:Int))=true:=decide_eq_true hxl;by_cases hy:0≤y
   ·have hy':decide (y≥0)=true:=decide_eq_true hy;obtain⟨g,off,e1,_,hr2⟩:=hr.resolve_left (fun e=>by rw[e] at hxl;simp at hxl;omega);obtain rfl:=Option.some.inj e1;obtain⟨i,rfl⟩:∃i:Nat,x=i:=⟨x.toNat,by omega⟩;have hil:i < M.length:=by omega
    obtain⟨ra,rc,h1,h2⟩:=hr2 i hil;have ho:letL false M i y=((M[i])[y.toNat]?).getD false:=by
     unfold letL;rw[if_neg (by decide),if_pos ⟨hx,hy⟩,Int.toNat_natCast,List.getElem?_eq_getElem hil];rfl
    rw[ho];generalize M[i]=row at h1 h2;clear hr hr2 ho e1;by_cases hyl:y < row.length
    ·have hyl':decide (y < (row.length:Int))=true:=decide_eq_true hyl;obtain⟨rg,ro,rfl,_,h4⟩:=h2.resolve_left (fun e=>by rw[e] at hyl;simp at hyl;omega);obtain⟨j,rfl⟩:∃j:Nat,y=j:=⟨y.toNat,by omega⟩;have hjl:j < row.length:=by omega
     have h3:=h4 j hjl;rw[Int.toNat_natCast,List.getElem?_eq_getElem hjl];generalize row[j]=bit at h3;clear h2 h4;go_enter Tryz.func153,Tryz.ntmps153
     go_wp2;go_ret;exact⟨ret_bool rfl,rfl⟩
    ·have hyl':decide (y < (row.length:Int))=false:=decide_eq_false hyl;have e3:row[y.toNat]?=none:=List.getElem?_eq_none (by omega);rw[e3];clear h2;go_enter Tryz.func153,Tryz.ntmps153
     go_wp2;go_ret;exact⟨ret_bool rfl,rfl⟩
   ·have hy':decide (y≥0)=false:=decide_eq_false hy;have ho:letL false M x y=false:=by
     unfold letL;rw[if_neg (by decide),if_neg (fun h=>hy h.2)]
    rw[ho];clear hr;go_enter Tryz.func153,Tryz.ntmps153
    go_wp2;go_ret;exact⟨ret_bool rfl,rfl⟩
  ·have hxl':decide (x < (M.length:Int))=false:=decide_eq_false hxl;have ho:letL false M x y=false:=by
    unfold letL;rw[if_neg (by decide)]
    split
    ·rw[List.getElem?_eq_none (by omega)];rfl
    ·rfl
   rw[ho];clear hr;go_enter Tryz.func153,Tryz.ntmps153
   go_wp2;go_ret;exact⟨ret_bool rfl,rfl⟩
 ·have hx':decide (x≥0)=false:=decide_eq_false hx;have ho:letL false M x y=false:=by
   unfold letL;rw[if_neg (by decide),if_neg (fun h=>hx h.1)]
  rw[ho];clear hr;go_enter Tryz.func153,Tryz.ntmps153
  go_wp2;go_ret;exact⟨ret_bool rfl,rfl⟩
open Go.RowKit
theorem nilNeB (w:World) (a:Addr) (n c:Nat):(binOp .eql 266 (.slice (some a) n c) (.slice none 0 0)).run Tryz.prog w=.ok (.bool false) w:=by kernel_rfl
def bitC (l:List Bool):List Value:=l.map fun x=>.bool x
theorem infoB:(Tryz.prog.info? 4).map (fun i=>(i.zero,i.size,i.bytes))=some (some (.bool false),1,1):=by kernel_rfl
set_option maxRecDepth 100000 in
set_option maxHeartbeats 1000000 in
theorem cloneB_any (xs:List Bool) (hx:xs.length≤100) (g off cap:Nat) (w:World) (hc:∀j (h:j < xs.length),w.cell? ⟨g,off+j,none⟩=some (.bool xs[j])):
  Calls Tryz.prog 226 #[.slice (some ⟨g,off,none⟩) xs.length cap] w fun e w'=>∃v,e=.returned v∧w'.ownsRow w.heap.size 4 1 v xs.length (bitC xs)∧Below w.heap.size w w':=by
 have hn:=nilNeB w ⟨g,off,none⟩ xs.length cap;obtain⟨i,hi,hz,hsz,hby⟩:=info_parts' infoB;have HB0:Hid (Below w.heap.size w (w.alloc (.cells #[] 4))):=belA (Below.refl _ _) _;have hown:(w.alloc (.cells #[] 4)).ownsRow w.heap.size 4 1 (.slice (some ⟨w.heap.size,0,none⟩) 0 0) 0 []:=⟨rfl,.inr ⟨w.heap.size,0,#[],rfl,Nat.le_refl _,heap_alloc_new w _,Nat.le_refl _,by unfold maxLen;omega,rfl,rfl⟩⟩;obtain⟨v',w',hr,ho,hg,_,hob⟩:=run_append_own_at (P:=Tryz.prog) (w:=w.alloc (.cells #[] 4)) w.heap.size 266 266 4 i _ 1 1 Tryz.underlying266 hi hz hsz hby rfl (by decide) (.slice (some ⟨w.heap.size,0,none⟩) 0 0) 0 [] hown ⟨g,off,none⟩ xs.length cap (bitC xs) (by simp[bitC]) (fun j u hj=>by
   rw[Addr.add_lit];have hj':j < xs.length:=by have:=(List.getElem?_eq_some_iff.1 hj).1;simpa [bitC] using this
   refine(HB0.out.cell (p:=⟨g,off+j,none⟩) (World.block_lt_of_cell? w _ (hc j hj'))).trans ?_;rw[hc j hj',←hj];simp[bitC,hj']) (by intro u hu;obtain⟨x,_,rfl⟩:=List.mem_map.1 hu;rfl) (by unfold maxLen;omega) (by omega) (by simp)
 have HO:Hid (w'.ownsRow w.heap.size 4 1 v' xs.length (bitC xs)):=by
  show w'.ownsRow _ _ _ _ _ _;rw[Nat.zero_add] at ho;exact ho
 have HB:Hid (Below w.heap.size w w'):=HB0.out.grown hg (by simp) fun b hb=>by simp[Value.ownBlock] at hb;omega
 have hzero:(IntKind.i64.wrap 0)=0:=rfl;clear hc ho hg hob hown HB0;go_enter Tryz.func226,Tryz.ntmps226
 go_wp2_with (at_builtin;refine wpList_append_run _ rfl _ _ 266 rfl _ _ _ w' rfl rfl hr ?_)
 go_ret;exact⟨_,rfl,HO.out,HB.out⟩
structure CopAt (w W : World) (B n m : Nat) (r : Nat → Nat → Bool) : Prop where
 bel:Below w.heap.size w W
 blk:∃cur,W.heap[B]?=some (.cells cur 266 (0,0))∧cur.size=n
 lo:w.heap.size≤B
 rows:∀i,i < m→∃rg rc,W.cell? ⟨B,i,none⟩=some (.slice (some ⟨rg,0,none⟩) n rc)∧w.heap.size≤rg∧rg≠B∧tagD W.heap[rg]?=5∧∀j,j < n→W.cell? ⟨rg,j,none⟩=some (.bool (r i j))
section
variable {w W W' : World} {B n m : Nat} {r : Nat → Nat → Bool}
theorem CopAt.lt (h:CopAt w W B n m r):B < W.heap.size:=by
 obtain⟨_,e,_⟩:=h.blk;exact lt_of_heap e
theorem CopAt.below (h:CopAt w W B n m r) (hb:Below W.heap.size W W'):CopAt w W' B n m r:=by
 refine⟨belJ h.bel hb,?_,h.lo,fun i hi=>?_⟩
 ·obtain⟨cur,e,hs⟩:=h.blk;exact⟨cur,(hb.block B h.lt).trans e,hs⟩
 ·obtain⟨rg,rc,h1,h2,h3,h4,h5⟩:=h.rows i hi;have hl:rg < W.heap.size:=by
   rcases Nat.lt_or_ge rg W.heap.size with h' | h'
   ·exact h'
   ·rw[Array.getElem?_eq_none h'] at h4;cases h4
  exact⟨rg,rc,(hb.cell (p:=⟨B,i,none⟩) h.lt).trans h1,h2,h3,by rw[hb.block rg hl];exact h4,fun j hj=>(hb.cell (p:=⟨rg,j,none⟩) hl).trans (h5 j hj)⟩
theorem CopAt.put (h:CopAt w W B n m r) (hm:m < n) {rg rc:Nat} (h2:w.heap.size≤rg) (h3:rg≠B) (h4:tagD W.heap[rg]?=5) (h5:∀j,j < n→W.cell? ⟨rg,j,none⟩=some (.bool (r m j))):CopAt w (W.setCell ⟨B,m,none⟩ (.slice (some ⟨rg,0,none⟩) n rc)) B n (m+1) r:=by
 obtain⟨cur,e,hs⟩:=h.blk;obtain⟨cur',e',hs'⟩:=heap_setCell e m (.slice (some ⟨rg,0,none⟩) n rc);have hother:∀g,g≠B→(W.setCell ⟨B,m,none⟩ (.slice (some ⟨rg,0,none⟩) n rc)).heap[g]?=W.heap[g]?:=fun g hg=>Below.heap_setCell W ⟨B,m,none⟩ _ g hg
 refine⟨h.bel.setCell (p:=⟨B,m,none⟩) h.lo _,⟨cur',e',by omega⟩,h.lo,fun i hi=>?_⟩;by_cases ei:i=m
 ·subst ei;exact⟨rg,rc,World.cell?_setCell_same' _ _ _ (by rw[cell_of_row _ _ _ _ 266 _ e,Array.getElem?_eq_getElem (by omega)];rfl),h2,h3,by rw[hother rg h3];exact h4,fun j hj=>(World.cell?_of_block (a:=⟨rg,j,none⟩) (hother rg h3)).trans (h5 j hj)⟩
 ·obtain⟨g1,c1,q1,q2,q3,q4,q5⟩:=h.rows i (by omega);exact⟨g1,c1,(World.cell?_setCell_other _ _ _ _ (offNe (Ne.symm ei))).trans q1,q2,q3,by rw[hother g1 q3];exact q4,fun j hj=>(World.cell?_of_block (a:=⟨g1,j,none⟩) (hother g1 q3)).trans (q5 j hj)⟩
theorem CopAt.links (h:CopAt w W B n n r):LnkS W (fun b=>w.heap.size≤b∧LTg W b) (.slice (some ⟨B,0,none⟩) n n) (tabL n r):=by
 obtain⟨cur,e,_⟩:=h.blk;refine⟨_,n,by rw[tabL_len],.inr ⟨B,0,rfl,⟨h.lo,.inl (by rw[e];rfl)⟩,fun i hi=>?_⟩⟩;have hi':i < n:=by rwa [tabL_len] at hi
 obtain⟨rg,rc,h1,h2,h3,h4,h5⟩:=h.rows i hi';refine⟨_,rc,by rw[Nat.zero_add,tabL_row_len];exact h1,.inr ⟨rg,0,rfl,⟨h2,.inr h4⟩,fun j hj=>?_⟩⟩;rw[tabL_at,Nat.zero_add];exact h5 j (by rwa [tabL_row_len] at hj)
end
set_option maxRecDepth 100000 in
set_option maxHeartbeats 4000000 in
theorem copied_any (n:Nat) (hn:1≤n∧n≤20) (r:Nat→Nat→Bool) (X:Nat→Prop) (lv:Value) (w:World) (h:LnkS w X lv (tabL n r)):
  Calls Tryz.prog 168 #[lv] w fun e w'=>∃lv',e=.returned lv'∧LnkS w' (fun b=>w.heap.size≤b∧LTg w' b) lv' (tabL n r)∧(∃a n c,lv'=.slice (some a) n c)∧Below w.heap.size w w':=by
 obtain⟨g,off,cap,e0,_⟩:=h.tab (show 0 < n by omega);have HRow:Hid (∀Z,Below w.heap.size w Z→∀i,i < n→∃rg ro rc,Z.cell? ⟨g,off+i,none⟩=some (.slice (some ⟨rg,ro,none⟩) n rc)∧∀j,j < n→Z.cell? ⟨rg,ro+j,none⟩=some (.bool (r i j))):=fun Z hZ i hi=>by
  obtain⟨g',off',cap',e',rg,ro,rc,h1,h2⟩:=(h.below hZ (Nat.le_refl _)).tab hi;rw[e0] at e';cases e';exact⟨rg,ro,rc,h1,h2⟩
 subst e0;have hnil:=nilNeL w ⟨g,off,none⟩ n cap;have hmk:=made_rows w n (by omega);have HC0:Hid (CopAt w (w.alloc (.cells (madeCells #[.slice none 0 0] n) 266)) w.heap.size n 0 r):=
  ⟨belA (Below.refl _ _) _,⟨_,heap_alloc_new w _,by simp[madeCells]⟩,Nat.le_refl _,fun i hi=>absurd hi (by omega)⟩
 clear h;go_enter Tryz.func168,Tryz.ntmps168
 go_wp2;clear hmk hnil;generalize w.alloc _=W1 at HC0 ⊢
 go_loopw [13] (fun v wr=>∃m:Nat,m≤n∧v=.int .i64 m∧CopAt w wr w.heap.size n m r) (fun v _=>n - (intOf v).toNat)
 case atStart=>exact⟨0,Nat.zero_le _,rfl,HC0.out⟩
 case round=>
  clear HC0;obtain⟨m,hm,rfl,hC⟩:=hrel;have HC:=hideIt hC;clear hC;by_cases hmn:m < n
  ·have hmn':(m:Int) < n:=by omega
   obtain⟨rg,ro,rc,h1,h2⟩:=HRow.out wr HC.out.bel m hmn;have hl:((List.range n).map fun j=>r m j).length=n:=by simp
   have HCl:=hideIt (cloneB_any ((List.range n).map fun j=>r m j) (by rw[hl];omega) rg ro rc wr (fun j hj=>by rw[h2 j (by rwa [hl] at hj)];simp));rw[hl] at HCl;clear h2;go_wp2_with fail
   refine HCl.out.mono ?_;clear HCl;rintro e W2 ⟨v,rfl,ho,hb⟩;have HC2:=hideIt (HC.out.below hb);obtain⟨sg,sc,rfl,hsg,htag,hcel⟩:∃sg sc,v=.slice (some ⟨sg,0,none⟩) n sc∧wr.heap.size≤sg∧tagD W2.heap[sg]?=5∧∀j,j < n→W2.cell? ⟨sg,j,none⟩=some (.bool (r m j)):=by
    rcases own_cells ho with ⟨_,e⟩ | ⟨sg,sc,e,_,_,hk⟩
    ·omega
    ·refine⟨sg,sc,e,(ownsRow_block ho sg (by rw[e];rfl)).1,own_tagD ho (by rw[e];rfl),fun j hj=>?_⟩;rw[hk j (by omega)];simp[bitC,hj]
   have hBl:=HC.out.lt;have HP:Hid (CopAt w (W2.setCell ⟨w.heap.size,m,none⟩ (.slice (some ⟨sg,0,none⟩) n sc)) w.heap.size n (m+1) r):=HC2.out.put hmn (by have:=HC.out.bel.size;omega) (by omega) htag hcel;obtain⟨cur,hcb,hcs⟩:=HC2.out.blk;have f1:W2.frozen? ⟨w.heap.size,m,none⟩=false:=frozen_of_row _ _ _ _ 266 hcb;have c1:W2.cell? ⟨w.heap.size,m,none⟩=some cur[m]:=by rw[cell_of_row _ _ _ _ 266 _ hcb,Array.getElem?_eq_getElem (by omega)]
   generalize cur[m]=old at c1;clear hcel htag ho hb HC2 HC hcb hcs hl h1;go_wp2
   go_roundw
   case rel=>exact⟨m+1,by omega,by go_num,HP.out⟩
   case measure=>simp[intOf];omega
  ·obtain rfl:m=n:=by omega
   go_wp2;go_ret;exact⟨_,rfl,HC.out.links,⟨_,_,_,rfl⟩,HC.out.bel⟩
set_option maxRecDepth 100000 in
theorem copied_nil (w:World):Calls Tryz.prog 168 #[.slice none 0 0] w fun e w'=>e=.returned (.slice none 0 0)∧w'=w:=by
 have hnil:=nilEqL w;go_enter Tryz.func168,Tryz.ntmps168
 go_wp2;go_ret;exact⟨rfl,rfl⟩
end Go.Proofs.YtjpklmighoondaaGreatDoor.St
namespace Go.Proofs.YtjpklmighoondaaGreatDoor.St
open Go.RowKit
theorem results_cell2 {fn:Func} {p u:Tmp} {ty:TypeId} (h:fn.results=#[.cell p ty,.tmp u]) (tmps:Array Value) (w:World) (g:Nat) (v:Value)
  (hp:tmps.getD p undef=.pointer (some ⟨g,0,none⟩)) (hl:(loadVar ty ⟨g,0,none⟩).run Tryz.prog w=.ok v w):(results fn tmps).run Tryz.prog w=.ok (.tuple #[v,tmps.getD u undef]) w:=by
 rw[results_cell_tmp h];simp only[hp,asAddr,Sem.run_pure,Result.andThen_ok,hl]
theorem loadMq {w:World} {g o:Nat} {m:Mq} (h:w.cell? ⟨g,o,none⟩=some (.int .i64 m.fr)∧w.cell? ⟨g,o+1,none⟩=some (.int .i64 m.tt)∧w.cell? ⟨g,o+2,none⟩=some (.int .i64 m.key)∧w.cell? ⟨g,o+3,none⟩=some (.int .i64 m.rd)∧w.cell? ⟨g,o+4,none⟩=some (.bool m.tells)∧w.cell? ⟨g,o+5,none⟩=some (.int .i64 m.t)∧w.cell? ⟨g,o+6,none⟩=some (.int .i64 m.c)∧w.cell? ⟨g,o+7,none⟩=some (.int .i64 m.v)):(loadVar 202 ⟨g,o,none⟩).run Tryz.prog w=.ok (mqV m) w:=
 run_loadVar_mid w g o 202 (mqC m) _ (fun j y hy=>by
  obtain⟨h0,h1,h2,h3,h4,h5,h6,h7⟩:=h
  match j with
  | 0=>simp[mqC] at hy;subst hy;exact h0
  | 1=>simp[mqC] at hy;subst hy;exact h1
  | 2=>simp[mqC] at hy;subst hy;exact h2
  | 3=>simp[mqC] at hy;subst hy;exact h3
  | 4=>simp[mqC] at hy;subst hy;exact h4
  | 5=>simp[mqC] at hy;subst hy;exact h5
  | 6=>simp[mqC] at hy;subst hy;exact h6
  | 7=>simp[mqC] at hy;subst hy;exact h7
  | j+8=>simp[mqC] at hy) Tryz.underlying202 rfl sizeMq
set_option maxRecDepth 100000 in
theorem pwait_any (base B o:Nat) (lv v:Value) (L:List Mq) (w:World) (h:NetP w base B o lv v L):
  Calls Tryz.prog 116 #[.pointer (some ⟨B,o,none⟩)] w fun e w'=>e=.returned (.int .i64 (L.length:Int))∧w'=w:=by
 obtain⟨va,vc,rfl⟩:=h.slice;have c0:=h.c0;clear h;go_enter Tryz.func116,Tryz.ntmps116
 go_wp2;go_ret;exact⟨rfl,rfl⟩
def AtQ (L:List Mq) (i:Int) (w:World) (e:Ending) (w':World):Prop:=
 (((i < 0∨(L.length:Int)≤i)∧e=.returned (.tuple #[mqV mq0,.bool false]))∨∃(k:Nat) (m:Mq),i=k∧L[k]?=some m∧e=.returned (.tuple #[mqV m,.bool true]))∧Below w.heap.size w w'
set_option maxRecDepth 100000 in
set_option maxHeartbeats 4000000 in
theorem pat_any (i:Int) (base B o:Nat) (lv v:Value) (L:List Mq) (w:World) (h:NetP w base B o lv v L):
  Calls Tryz.prog 152 #[.pointer (some ⟨B,o,none⟩),.int .i64 i] w fun e w'=>AtQ L i w e w':=by
 have HB0:=hideIt (belA (Below.refl _ w) (.cells #[.int .i64 0,.int .i64 0,.int .i64 0,.int .i64 0,.bool false,.int .i64 0,.int .i64 0,.int .i64 0] 202))
 have HZ:Hid ((w.alloc (.cells #[.int .i64 0,.int .i64 0,.int .i64 0,.int .i64 0,.bool false,.int .i64 0,.int .i64 0,.int .i64 0] 202)).cell? ⟨w.heap.size,0,none⟩=some (.int .i64 0)∧(w.alloc (.cells #[.int .i64 0,.int .i64 0,.int .i64 0,.int .i64 0,.bool false,.int .i64 0,.int .i64 0,.int .i64 0] 202)).cell? ⟨w.heap.size,1,none⟩=some (.int .i64 0)∧(w.alloc (.cells #[.int .i64 0,.int .i64 0,.int .i64 0,.int .i64 0,.bool false,.int .i64 0,.int .i64 0,.int .i64 0] 202)).cell? ⟨w.heap.size,2,none⟩=some (.int .i64 0)∧(w.alloc (.cells #[.int .i64 0,.int .i64 0,.int .i64 0,.int .i64 0,.bool false,.int .i64 0,.int .i64 0,.int .i64 0] 202)).cell? ⟨w.heap.size,3,none⟩=some (.int .i64 0)∧(w.alloc (.cells #[.int .i64 0,.int .i64 0,.int .i64 0,.int .i64 0,.bool false,.int .i64 0,.int .i64 0,.int .i64 0] 202)).cell? ⟨w.heap.size,4,none⟩=some (.bool false)∧(w.alloc (.cells #[.int .i64 0,.int .i64 0,.int .i64 0,.int .i64 0,.bool false,.int .i64 0,.int .i64 0,.int .i64 0] 202)).cell? ⟨w.heap.size,5,none⟩=some (.int .i64 0)∧(w.alloc (.cells #[.int .i64 0,.int .i64 0,.int .i64 0,.int .i64 0,.bool false,.int .i64 0,.int .i64 0,.int .i64 0] 202)).cell? ⟨w.heap.size,6,none⟩=some (.int .i64 0)∧(w.alloc (.cells #[.int .i64 0,.int .i64 0,.int .i64 0,.int .i64 0,.bool false,.int .i64 0,.int .i64 0,.int .i64 0] 202)).cell? ⟨w.heap.size,7,none⟩=some (.int .i64 0)):=blkMq (m:=mq0) (heap_alloc_new w _)
 have HZf:Hid (∀j,(w.alloc (.cells #[.int .i64 0,.int .i64 0,.int .i64 0,.int .i64 0,.bool false,.int .i64 0,.int .i64 0,.int .i64 0] 202)).frozen? ⟨w.heap.size,j,none⟩=false):=fun j=>frozen_of_row _ _ _ _ 202 (heap_alloc_new w _)
 have hW:=h.below HB0.out;have HW:=hideIt hW;clear hW;have hBl:=h.lt;have HV:Hid ((w.alloc (.cells #[.int .i64 0,.int .i64 0,.int .i64 0,.int .i64 0,.bool false,.int .i64 0,.int .i64 0,.int .i64 0] 202)).heap[w.heap.size]?=some (.cells #[.int .i64 0,.int .i64 0,.int .i64 0,.int .i64 0,.bool false,.int .i64 0,.int .i64 0,.int .i64 0] 202 (0,0))):=heap_alloc_new w _;have hbV:=HB0.out;have hsV:(w.alloc (.cells #[.int .i64 0,.int .i64 0,.int .i64 0,.int .i64 0,.bool false,.int .i64 0,.int .i64 0,.int .i64 0] 202)).heap.size=w.heap.size+1:=by simp
 have HSV:=hideIt hsV;clear hsV;by_cases h0:i < 0
 ·have h0':decide (i < 0)=true:=decide_eq_true h0;have H0:=hideIt h0;clear h h0;go_enter Tryz.func152,Tryz.ntmps152
  go_upto_region 1 with fail
  obtain⟨z0,z1,z2,z3,z4,z5,z6,z7⟩:=HZ.out;have fz:=HZf.out;clear hbV;generalize w.alloc (.cells #[.int .i64 0,.int .i64 0,.int .i64 0,.int .i64 0,.bool false,.int .i64 0,.int .i64 0,.int .i64 0] 202)=V at*
  go_wp2;exact bodyPost_ret (results_cell2 rfl _ _ _ _ rfl (loadMq (m:=mq0) (blkMq (m:=mq0) (setMq HV.out)))) rfl ⟨.inl ⟨.inl H0.out,rfl⟩,setMq_bel _ _ _ _ _ _ _ _ HB0.out (Nat.le_refl _)⟩
 have h0':decide (i < 0)=false:=decide_eq_false h0;have HWt:=hideIt (pwait_any base B o lv v L _ HW.out);by_cases h1:(L.length:Int)≤i
 ·have h1':decide (i≥(L.length:Int))=true:=decide_eq_true h1;have H1:=hideIt h1;clear h h1;go_enter Tryz.func152,Tryz.ntmps152
  go_upto_region 1 with fail
  obtain⟨z0,z1,z2,z3,z4,z5,z6,z7⟩:=HZ.out;have fz:=HZf.out;clear hbV;generalize w.alloc (.cells #[.int .i64 0,.int .i64 0,.int .i64 0,.int .i64 0,.bool false,.int .i64 0,.int .i64 0,.int .i64 0] 202)=V at*
  go_wp2_with fail
  refine HWt.out.mono ?_;rintro e w1 ⟨rfl,rfl⟩;go_wp2;exact bodyPost_ret (results_cell2 rfl _ _ _ _ rfl (loadMq (m:=mq0) (blkMq (m:=mq0) (setMq HV.out)))) rfl ⟨.inl ⟨.inr H1.out,rfl⟩,setMq_bel _ _ _ _ _ _ _ _ HB0.out (Nat.le_refl _)⟩
 have h1':decide (i≥(L.length:Int))=false:=decide_eq_false h1;obtain⟨k,rfl⟩:∃k:Nat,i=k:=⟨i.toNat,by omega⟩;have hk:k < L.length:=by omega
 have hkL:(k:Int) < (L.length:Int):=by omega
 obtain⟨g,cap,rfl,hcap,hbg,hcells⟩:=HW.out.at hk;obtain⟨m,hm⟩:∃m,L[k]?=some m:=⟨_,List.getElem?_eq_getElem hk⟩;obtain⟨m0,m1,m2,m3,m4,m5,m6,m7⟩:=hcells m hm;have HM:=hideIt hm;have c0:=HW.out.c0;clear h hcells hm;go_enter Tryz.func152,Tryz.ntmps152
 go_upto_region 1 with fail
 obtain⟨z0,z1,z2,z3,z4,z5,z6,z7⟩:=HZ.out;have fz:=HZf.out;clear hbV;generalize w.alloc (.cells #[.int .i64 0,.int .i64 0,.int .i64 0,.int .i64 0,.bool false,.int .i64 0,.int .i64 0,.int .i64 0] 202)=V at*
 go_wp2_with fail
 refine HWt.out.mono ?_;rintro e w1 ⟨rfl,rfl⟩;go_wp2;exact bodyPost_ret (results_cell2 rfl _ _ _ _ rfl (loadMq (m:=m) (blkMq (m:=m) (setMq HV.out)))) rfl ⟨.inr ⟨k,m,rfl,HM.out,rfl⟩,setMq_bel _ _ _ _ _ _ _ _ HB0.out (Nat.le_refl _)⟩
end Go.Proofs.YtjpklmighoondaaGreatDoor.St
