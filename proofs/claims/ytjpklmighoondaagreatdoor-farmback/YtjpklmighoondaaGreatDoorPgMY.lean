/-
  What a report's page is, and how its parts are joined.
  A report's page, walked: farm.Page.
  A page's parts, read: between and numbers, walked.
  The two lines that a page has of a verdict, read: farm.readVerdict, walked.
  What is unescaped: slices.Backward's iterator over the five escapes.
  A number that is read, the words of a line: walked.
  What parseWords makes of a line's words: walked.
-/
import Derived.Test.YtjpklmighoondaaGreatDoorFaYY
import Derived.Test.YtjpklmighoondaaGreatDoorFaRY
import Derived.Test.YtjpklmighoondaaGreatDoorSwOY
import Derived.OwnWalk
import Derived.Test.YtjpklmighoondaaGreatDoorFaZY
import Derived.RangeFuncNested
import Derived.RangeFuncBound
import Derived.RangeFuncCalls
import Derived.RangeFuncLeaves
import Derived.RangeFuncWrites
import Derived.Shelf.Abstract
import Derived.WalkKit
import Derived.OwnWalkIn
import Derived.TacticsInMore
import Derived.LoopNIn
import Derived.LoopIn
import Derived.Test.YtjpklmighoondaaGreatDoorFieldsQY
namespace Go.Proofs.YtjpklmighoondaaGreatDoor.Pg
open Go.RowKit Go.Lib
open Gn (ba ba_data ba_size)
open Go.RowKit Go.Lib
open Gn (ba ba_data ba_size)
open Go.RowKit Go.Lib
open Gn (ba ba_data ba_size)
open Go.RowKit Go.Lib
open Gn (ba ba_data ba_size)
open Go.RowKit Go.Lib Go.Shelf
open Gn (ba ba_data ba_size)
attribute [local go_sem] Oper.semAt_some
end Go.Proofs.YtjpklmighoondaaGreatDoor.Pg
namespace Go.Proofs.YtjpklmighoondaaGreatDoor
open Go.RowKit Go.Lib
theorem below_bytes (w:World) (t:TypeId) (s:ByteArray):Below w.heap.size w (Lib.bytesWorld w t s):=Lib.bytesWorld_below _ _ _
theorem below_grow (w:World) (k:Nat) (os:Array Obj):Below w.heap.size w (Go.Sort.grow (w.drewN k) os):=by
 refine⟨rfl,rfl,rfl,by simp[Go.Sort.grow,World.drewN],fun k hk=>?_⟩;simp only[Go.Sort.grow,World.drewN];rw[Array.getElem?_append_left hk]
set_option maxHeartbeats 1000000 in
theorem number_any (n:Int) (h: -1000000≤n∧n≤1000000) (w:World) (hp:Pow w) (h9:4≤w.heap.size):
  Calls Tryz.prog 129 #[.string ⟨(Lib.itoa n).toArray⟩] w fun e w'=>e=.returned (.tuple #[.int .i64 n,.bool true])∧Below w.heap.size w w':=by
 have HP:=hideIt hp;have HI:Hid (∀W,Calls Tryz.prog 181 #[.string ⟨(Lib.itoa n).toArray⟩,.int .i64 10,.int .i64 64] W fun e w'=>e=.returned (.tuple #[.int .i64 n,.nilIface])∧Below W.heap.size W w'):=hideIt (fun W=>by
  refine(sh_strconv_ParseInt_10_at64_ok ⟨(Lib.itoa n).toArray⟩ ?_ n ?_ W).mono ?_
  ·have:=itoa_len n h;simp only[ByteArray.size,List.size_toArray];omega
  ·simpa using parse_itoa n h.1 h.2
  ·rintro e w' ⟨rfl,rfl | ⟨t,rfl⟩⟩
   ·exact⟨rfl,Below.refl _ _⟩
   ·exact⟨rfl,below_bytes _ _ _⟩)
 have HF:Hid (∀W,Below w.heap.size w W→Calls Tryz.prog 182 #[.int .i64 n,.int .i64 10] W fun e w'=>e=.returned (.string ⟨(Lib.itoa n).toArray⟩)∧Below W.heap.size W w'):=hideIt (fun W hW=>by
  refine(sh_strconv_FormatInt_10 n (by omega) (by omega) W (HP.out.below hW h9)).mono ?_;rintro e w' ⟨rfl,k,os,rfl⟩;exact⟨rfl,below_grow _ _ _⟩)
 clear hp;go_enter Tryz.func129,Tryz.ntmps129
 go_wp2_with fail
 refine(HI.out _).mono ?_;rintro x w1 ⟨rfl,hb1⟩;have HB1:=hideIt hb1;clear hb1;go_wp2_with fail
 refine(HF.out _ HB1.out).mono ?_;rintro x w2 ⟨rfl,hb2⟩;have HB2:=hideIt (belJ HB1.out hb2);clear hb2;go_wp2;go_ret2;exact⟨rfl,HB2.out⟩
theorem blank_any (x:Nat) (W:World):Calls Tryz.prog 184 #[encR x] W fun e w'=>e=.returned (.bool (blankP x))∧w'=W:=by
 unfold encR;go_enter Tryz.func184,Tryz.ntmps184
 go_wp2;go_ret;refine⟨?_,rfl⟩;show Ending.returned (.bool ((x:Int)==32))=Ending.returned (.bool (x==32));have:((x:Int)==32)=(x==32):=by rw[Bool.eq_iff_iff];simp;omega
 rw[this]
set_option maxHeartbeats 1000000 in
theorem words_any (s:ByteArray) (w:World) (hs:s.size≤4294967296):
  Calls Tryz.prog 131 #[.string s] w fun e w'=>∃A,e=.returned (.slice (some ⟨A,0,none⟩) (Lib.goFieldsP blankP s).length (Lib.goFieldsP blankP s).length)∧w.heap.size≤A∧
   w'.ownsRow w.heap.size 9 1 (.slice (some ⟨A,0,none⟩) (Lib.goFieldsP blankP s).length (Lib.goFieldsP blankP s).length) (Lib.goFieldsP blankP s).length ((Lib.goFieldsP blankP s).map Value.string)∧Below w.heap.size w w':=by
 have HF:=hideIt (sh_strings_FieldsFunc 184 #[] (enters_of (P:=Tryz.prog) Tryz.func184 (by kernel_rfl) rfl) blankP s w hs (fun W x _=>(blank_any x W).mono (fun e w' h=>⟨h.1,0,h.2⟩)));go_enter Tryz.func131,Tryz.ntmps131
 go_wp2_with fail
 refine HF.out.mono ?_;rintro e w1 ⟨A,rfl,h1,h2,h3⟩;have H2:=hideIt h2;clear h2;go_wp2;go_ret;exact⟨A,rfl,h1,H2.out,h3⟩
open Go.RowKit Go.Lib
attribute [local go_sem ↓] Go.wp_at_zero Go.wp_at_succ
def NumW (W:World) (G:Nat) (x0 x1 x2 x3 x4:Int):Prop:=
 (W.cell? ⟨G,0,none⟩=some (.int .i64 x0)∧W.cell? ⟨G,1,none⟩=some (.int .i64 x1)∧W.cell? ⟨G,2,none⟩=some (.int .i64 x2)∧W.cell? ⟨G,3,none⟩=some (.int .i64 x3)∧W.cell? ⟨G,4,none⟩=some (.int .i64 x4))∧∀j,W.frozen? ⟨G,j,none⟩=false
theorem NumW.below {W W1:World} {B G:Nat} {x0 x1 x2 x3 x4:Int} (h:NumW W G x0 x1 x2 x3 x4) (hG:G < B) (hb:Below B W W1):NumW W1 G x0 x1 x2 x3 x4:=by
 obtain⟨⟨h0,h1,h2,h3,h4⟩,hf⟩:=h;exact⟨⟨(hb.cell hG).trans h0,(hb.cell hG).trans h1,(hb.cell hG).trans h2,(hb.cell hG).trans h3,(hb.cell hG).trans h4⟩,fun j=>(World.frozen?_of_block (a:=⟨G,j,none⟩) (hb.block G hG)).trans (hf j)⟩
def WordsAt (W:World) (A:Nat) (e:Ev):Prop:=
 W.cell? ⟨A,0,none⟩=some (.string ⟨(Lib.itoa e.p).toArray⟩)∧W.cell? ⟨A,1,none⟩=some (.string ⟨(typeN e.t).toArray⟩)∧W.cell? ⟨A,2,none⟩=some (.string ⟨(kindN e.d).toArray⟩)∧W.cell? ⟨A,3,none⟩=some (.string ⟨(Lib.itoa e.k).toArray⟩)∧W.cell? ⟨A,4,none⟩=some (.string ⟨(Lib.itoa e.a).toArray⟩)∧W.cell? ⟨A,5,none⟩=some (.string ⟨(Lib.itoa e.b).toArray⟩)∧W.cell? ⟨A,6,none⟩=some (.string ⟨(Lib.itoa e.r).toArray⟩)
def EvAt7 (w:World) (b:Nat) (e:Ev):Prop:=
 w.cell? ⟨b,0,none⟩=some (.int .i64 e.p)∧w.cell? ⟨b,1,none⟩=some (.int .i64 e.t)∧w.cell? ⟨b,2,none⟩=some (.int .i64 e.k)∧w.cell? ⟨b,3,none⟩=some (.int .i64 e.d)∧w.cell? ⟨b,4,none⟩=some (.int .i64 e.a)∧w.cell? ⟨b,5,none⟩=some (.int .i64 e.b)∧w.cell? ⟨b,6,none⟩=some (.int .i64 e.r)
def typeBs:List ByteArray:= [⟨#[]⟩,⟨(typeN 1).toArray⟩,⟨(typeN 2).toArray⟩,⟨(typeN 3).toArray⟩,⟨(typeN 4).toArray⟩]
def kindBs:List ByteArray:= [⟨#[]⟩,⟨(kindN 1).toArray⟩,⟨(kindN 2).toArray⟩,⟨(kindN 3).toArray⟩,⟨(kindN 4).toArray⟩,⟨(kindN 5).toArray⟩,⟨(kindN 6).toArray⟩,⟨(kindN 7).toArray⟩,⟨(kindN 8).toArray⟩,⟨(kindN 9).toArray⟩,⟨(kindN 10).toArray⟩,⟨(kindN 11).toArray⟩,⟨(kindN 12).toArray⟩]
theorem type_idx {t:Int} (h0:1≤t) (h1:t≤4):Lib.idxOfS (typeBs.take 5) ⟨(typeN t).toArray⟩=t:=by
 have:t=1∨t=2∨t=3∨t=4:=by omega
 rcases this with rfl | rfl | rfl | rfl<;>decide
theorem kind_idx {t:Int} (h0:1≤t) (h1:t≤12):Lib.idxOfS (kindBs.take 13) ⟨(kindN t).toArray⟩=t:=by
 have:t=1∨t=2∨t=3∨t=4∨t=5∨t=6∨t=7∨t=8∨t=9∨t=10∨t=11∨t=12:=by omega
 rcases this with rfl | rfl | rfl | rfl | rfl | rfl | rfl | rfl | rfl | rfl | rfl | rfl<;>decide
theorem type_index (W:World) {t:Int} (h0:1≤t) (h1:t≤4):
  Calls Tryz.prog 128 #[.slice (some ⟨W.heap.size,0,none⟩) 5 5,.string ⟨(typeN t).toArray⟩] (W.alloc (.cells typeCells 9)) fun x w'=>x=.returned (.int .i64 t)∧w'=W.alloc (.cells typeCells 9):=by
 have:=sh_slices_Index_string W.heap.size 0 5 5 typeBs ⟨(typeN t).toArray⟩ (W.alloc (.cells typeCells 9)) (by decide) (by decide) (fun j hj=>by
  rw[Nat.zero_add,cell9];have:j=0∨j=1∨j=2∨j=3∨j=4:=by simp[typeBs] at hj;omega
  rcases this with rfl | rfl | rfl | rfl | rfl<;>rfl)
 rw[type_idx h0 h1] at this;exact this
theorem kind_index (W:World) {t:Int} (h0:1≤t) (h1:t≤12):
  Calls Tryz.prog 128 #[.slice (some ⟨W.heap.size,0,none⟩) 13 13,.string ⟨(kindN t).toArray⟩] (W.alloc (.cells kindCells 9)) fun x w'=>x=.returned (.int .i64 t)∧w'=W.alloc (.cells kindCells 9):=by
 have:=sh_slices_Index_string W.heap.size 0 13 13 kindBs ⟨(kindN t).toArray⟩ (W.alloc (.cells kindCells 9)) (by decide) (by decide) (fun j hj=>by
  rw[Nat.zero_add,cell9];have:j=0∨j=1∨j=2∨j=3∨j=4∨j=5∨j=6∨j=7∨j=8∨j=9∨j=10∨j=11∨j=12:=by simp[kindBs] at hj;omega
  rcases this with rfl | rfl | rfl | rfl | rfl | rfl | rfl | rfl | rfl | rfl | rfl | rfl | rfl<;>rfl)
 rw[kind_idx h0 h1] at this;exact this
theorem ev7_new (w:World) (e:Ev):EvAt7 (w.alloc e.obj) w.heap.size e:=⟨by simp[Ev.obj],by simp[Ev.obj],by simp[Ev.obj],by simp[Ev.obj],by simp[Ev.obj],by simp[Ev.obj],by simp[Ev.obj]⟩
theorem zero7 (w:World):EvAt7 (w.alloc (.cells #[.int .i64 0,.int .i64 0,.int .i64 0,.int .i64 0,.int .i64 0,.int .i64 0,.int .i64 0] 54)) w.heap.size ⟨0,0,0,0,0,0,0⟩∧∀j,(w.alloc (.cells #[.int .i64 0,.int .i64 0,.int .i64 0,.int .i64 0,.int .i64 0,.int .i64 0,.int .i64 0] 54)).frozen? ⟨w.heap.size,j,none⟩=false:=
 ⟨⟨by simp,by simp,by simp,by simp,by simp,by simp,by simp⟩,fun j=>by simp⟩
theorem set7 (w:World) (R:Nat) (e:Ev) (h:EvAt7 w R ⟨0,0,0,0,0,0,0⟩):EvAt7 (((((((w.setCell ⟨R,0,none⟩ (.int .i64 e.p)).setCell ⟨R,1,none⟩ (.int .i64 e.t)).setCell ⟨R,2,none⟩ (.int .i64 e.k)).setCell ⟨R,3,none⟩ (.int .i64 e.d)).setCell ⟨R,4,none⟩ (.int .i64 e.a)).setCell ⟨R,5,none⟩ (.int .i64 e.b)).setCell ⟨R,6,none⟩ (.int .i64 e.r)) R e:=by
 obtain⟨r0,r1,r2,r3,r4,r5,r6⟩:=h
 exact⟨((World.cell?_setCell_other _ _ _ _ (by simp)).trans ((World.cell?_setCell_other _ _ _ _ (by simp)).trans ((World.cell?_setCell_other _ _ _ _ (by simp)).trans ((World.cell?_setCell_other _ _ _ _ (by simp)).trans ((World.cell?_setCell_other _ _ _ _ (by simp)).trans ((World.cell?_setCell_other _ _ _ _ (by simp)).trans (World.cell?_setCell_same _ _ _ r0))))))),((World.cell?_setCell_other _ _ _ _ (by simp)).trans ((World.cell?_setCell_other _ _ _ _ (by simp)).trans ((World.cell?_setCell_other _ _ _ _ (by simp)).trans ((World.cell?_setCell_other _ _ _ _ (by simp)).trans ((World.cell?_setCell_other _ _ _ _ (by simp)).trans (World.cell?_setCell_same _ _ _ ((World.cell?_setCell_other _ _ _ _ (by simp)).trans r1))))))),((World.cell?_setCell_other _ _ _ _ (by simp)).trans ((World.cell?_setCell_other _ _ _ _ (by simp)).trans ((World.cell?_setCell_other _ _ _ _ (by simp)).trans ((World.cell?_setCell_other _ _ _ _ (by simp)).trans (World.cell?_setCell_same _ _ _ ((World.cell?_setCell_other _ _ _ _ (by simp)).trans ((World.cell?_setCell_other _ _ _ _ (by simp)).trans r2))))))),((World.cell?_setCell_other _ _ _ _ (by simp)).trans ((World.cell?_setCell_other _ _ _ _ (by simp)).trans ((World.cell?_setCell_other _ _ _ _ (by simp)).trans (World.cell?_setCell_same _ _ _ ((World.cell?_setCell_other _ _ _ _ (by simp)).trans ((World.cell?_setCell_other _ _ _ _ (by simp)).trans ((World.cell?_setCell_other _ _ _ _ (by simp)).trans r3))))))),((World.cell?_setCell_other _ _ _ _ (by simp)).trans ((World.cell?_setCell_other _ _ _ _ (by simp)).trans (World.cell?_setCell_same _ _ _ ((World.cell?_setCell_other _ _ _ _ (by simp)).trans ((World.cell?_setCell_other _ _ _ _ (by simp)).trans ((World.cell?_setCell_other _ _ _ _ (by simp)).trans ((World.cell?_setCell_other _ _ _ _ (by simp)).trans r4))))))),((World.cell?_setCell_other _ _ _ _ (by simp)).trans (World.cell?_setCell_same _ _ _ ((World.cell?_setCell_other _ _ _ _ (by simp)).trans ((World.cell?_setCell_other _ _ _ _ (by simp)).trans ((World.cell?_setCell_other _ _ _ _ (by simp)).trans ((World.cell?_setCell_other _ _ _ _ (by simp)).trans ((World.cell?_setCell_other _ _ _ _ (by simp)).trans r5))))))),(World.cell?_setCell_same _ _ _ ((World.cell?_setCell_other _ _ _ _ (by simp)).trans ((World.cell?_setCell_other _ _ _ _ (by simp)).trans ((World.cell?_setCell_other _ _ _ _ (by simp)).trans ((World.cell?_setCell_other _ _ _ _ (by simp)).trans ((World.cell?_setCell_other _ _ _ _ (by simp)).trans ((World.cell?_setCell_other _ _ _ _ (by simp)).trans r6)))))))⟩
theorem set7_below {w0 w:World} {R:Nat} (e:Ev) (h:Below R w0 w):Below R w0 (((((((w.setCell ⟨R,0,none⟩ (.int .i64 e.p)).setCell ⟨R,1,none⟩ (.int .i64 e.t)).setCell ⟨R,2,none⟩ (.int .i64 e.k)).setCell ⟨R,3,none⟩ (.int .i64 e.d)).setCell ⟨R,4,none⟩ (.int .i64 e.a)).setCell ⟨R,5,none⟩ (.int .i64 e.b)).setCell ⟨R,6,none⟩ (.int .i64 e.r)):=(((((((h.setCell (Nat.le_refl R) _).setCell (Nat.le_refl R) _).setCell (Nat.le_refl R) _).setCell (Nat.le_refl R) _).setCell (Nat.le_refl R) _).setCell (Nat.le_refl R) _).setCell (Nat.le_refl R) _)
theorem set7_far (w:World) (R b j:Nat) (e:Ev) (h:b≠R):(((((((w.setCell ⟨R,0,none⟩ (.int .i64 e.p)).setCell ⟨R,1,none⟩ (.int .i64 e.t)).setCell ⟨R,2,none⟩ (.int .i64 e.k)).setCell ⟨R,3,none⟩ (.int .i64 e.d)).setCell ⟨R,4,none⟩ (.int .i64 e.a)).setCell ⟨R,5,none⟩ (.int .i64 e.b)).setCell ⟨R,6,none⟩ (.int .i64 e.r)).cell? ⟨b,j,none⟩=w.cell? ⟨b,j,none⟩:=by
 have n:∀i,(⟨R,i,none⟩:Addr)≠⟨b,j,none⟩:=fun i hi=>h (congrArg Addr.block hi).symm
 rw[World.cell?_setCell_other _ _ _ _ (n 6),World.cell?_setCell_other _ _ _ _ (n 5),World.cell?_setCell_other _ _ _ _ (n 4),World.cell?_setCell_other _ _ _ _ (n 3),World.cell?_setCell_other _ _ _ _ (n 2),World.cell?_setCell_other _ _ _ _ (n 1),World.cell?_setCell_other _ _ _ _ (n 0)]
theorem ret35 (tmps:Array Value) (w:World) (q:Nat) (e:Ev) (hp:tmps.getD 2 undef=.pointer (some ⟨q,0,none⟩)) (h:EvAt7 w q e):
  (results Tryz.f132 tmps).run Tryz.prog w=.ok (.tuple #[.agg #[.int .i64 e.p,.int .i64 e.t,.int .i64 e.k,.int .i64 e.d,.int .i64 e.a,.int .i64 e.b,.int .i64 e.r],tmps.getD 3 undef]) w:=by
 obtain⟨h0,h1,h2,h3,h4,h5,h6⟩:=h;have hp':tmps[2]?.getD undef=.pointer (some ⟨q,0,none⟩):=by simpa using hp
 simp[results,Tryz.results132,go_sem,hp',h0,h1,h2,h3,h4,h5,h6]
set_option maxRecDepth 100000 in
set_option maxHeartbeats 4000000 in
theorem parseWords_any (e:Ev) (A:Nat) (w:World) (hz:e.fault=0) (hA:A < w.heap.size) (hw:WordsAt w A e) (hp:Pow w) (h9:4≤w.heap.size):
  Calls Tryz.prog 132 #[.slice (some ⟨A,0,none⟩) 7 7] w fun x w'=>x=.returned (.tuple #[.agg #[.int .i64 e.p,.int .i64 e.t,.int .i64 e.k,.int .i64 e.d,.int .i64 e.a,.int .i64 e.b,.int .i64 e.r],.int .i64 0])∧Below w.heap.size w w':=by
 have HP:=hideIt hp;have HZ:=hideIt hz;have HS:=hideIt (small_of_fault hz);have HW:=hideIt hw;clear hw hp hz;obtain⟨W1,hW1⟩:∃W1,W1=w.alloc (.cells #[.int .i64 0,.int .i64 0,.int .i64 0,.int .i64 0,.int .i64 0,.int .i64 0,.int .i64 0] 54):=⟨_,rfl⟩;have hs1:W1.heap.size=w.heap.size+1:=by rw[hW1];simp
 have hB1:Below w.heap.size w W1:=by rw[hW1];exact belA (Below.refl _ _) _
 have HB1:=hideIt hB1;have HW1:=hideIt hW1;obtain⟨c0,c1,c2,c3,c4,c5,c6⟩:WordsAt W1 A e:=(by
  obtain⟨c0,c1,c2,c3,c4,c5,c6⟩:=HW.out;exact⟨(hB1.cell hA).trans c0,(hB1.cell hA).trans c1,(hB1.cell hA).trans c2,(hB1.cell hA).trans c3,(hB1.cell hA).trans c4,(hB1.cell hA).trans c5,(hB1.cell hA).trans c6⟩)
 clear hB1 hW1;go_enter Tryz.func132,Tryz.ntmps132
 go_wp2_with fail
 rw[←HW1.out];have hn2:NumW (W1.alloc (.cells #[.int .i64 0,.int .i64 0,.int .i64 0,.int .i64 0,.int .i64 0] 288)) (w.heap.size+1) 0 0 0 0 0:=(by
  rw[←hs1];exact⟨⟨by simp,by simp,by simp,by simp,by simp⟩,fun j=>by simp⟩)
 have hB2:=(Below.refl W1.heap.size W1).alloc (Nat.le_refl _) (.cells #[.int .i64 0,.int .i64 0,.int .i64 0,.int .i64 0,.int .i64 0] 288);have hl2:W1.heap.size < (W1.alloc (.cells #[.int .i64 0,.int .i64 0,.int .i64 0,.int .i64 0,.int .i64 0] 288)).heap.size:=by simp
 obtain⟨W2,hW2⟩:∃W2,W2=W1.alloc (.cells #[.int .i64 0,.int .i64 0,.int .i64 0,.int .i64 0,.int .i64 0] 288):=⟨_,rfl⟩;rw[←hW2] at hn2 hB2 hl2;rw[←hW2];clear hW2;have hA1:A < W1.heap.size:=by omega
 have HC:=hideIt (show WordsAt W1 A e from⟨c0,c1,c2,c3,c4,c5,c6⟩);have d0:=(hB2.cell (p:=⟨A,0,none⟩) hA1).trans c0;have d3:=(hB2.cell (p:=⟨A,3,none⟩) hA1).trans c3;have d4:=(hB2.cell (p:=⟨A,4,none⟩) hA1).trans c4;have d5:=(hB2.cell (p:=⟨A,5,none⟩) hA1).trans c5;have d6:=(hB2.cell (p:=⟨A,6,none⟩) hA1).trans c6;have HN2:=hideIt hn2;have HB2:=hideIt hB2;have HL2:=hideIt hl2;clear hn2 hB2 hl2 c0 c1 c2 c3 c4 c5 c6
 go_region_held3 (fun w'=>w'.cell? ⟨A,0,none⟩=some (.string ⟨(Lib.itoa e.p).toArray⟩)∧w'.cell? ⟨A,3,none⟩=some (.string ⟨(Lib.itoa e.k).toArray⟩)∧w'.cell? ⟨A,4,none⟩=some (.string ⟨(Lib.itoa e.a).toArray⟩)∧w'.cell? ⟨A,5,none⟩=some (.string ⟨(Lib.itoa e.b).toArray⟩)∧w'.cell? ⟨A,6,none⟩=some (.string ⟨(Lib.itoa e.r).toArray⟩)) (go_keep) (fail)
 clear d0 d3 d4 d5 d6;have HN3:=hideIt (HN2.out.below (B:=W2.heap.size) (by have:=HL2.out;omega) (Below.drew (Below.refl _ _)));have HB3:=hideIt (Below.drew HB2.out);go_wp2_with fail
 go_loopw [32] (fun i wr=>∃k:Nat,k≤5∧i=.int .i64 k∧NumW wr (w.heap.size+1) (if 0 < k then e.p else 0) (if 1 < k then e.k else 0) (if 2 < k then e.a else 0) (if 3 < k then e.b else 0) (if 4 < k then e.r else 0)∧Below W1.heap.size W1 wr∧W1.heap.size < wr.heap.size) (fun i _=>5 - (intOf i).toNat)
 case atStart=>exact⟨0,Nat.zero_le _,rfl,HN3.out,HB3.out,HL2.out⟩
 case round=>
  obtain⟨k,hk,rfl,hn,hnx,hlx⟩:=hrel;have HNX:=hideIt hnx;have HNU:=hideIt hn;clear hn hnx;have j0:∀w:World,(Instr.index 289 (.agg #[.string ⟨(Lib.itoa e.p).toArray⟩,.string ⟨(Lib.itoa e.k).toArray⟩,.string ⟨(Lib.itoa e.a).toArray⟩,.string ⟨(Lib.itoa e.b).toArray⟩,.string ⟨(Lib.itoa e.r).toArray⟩]) (.int .i64 0)).run Tryz.prog w=.ok (.string ⟨(Lib.itoa e.p).toArray⟩) w:=fun _=>by kernel_rfl
  have j1:∀w:World,(Instr.index 289 (.agg #[.string ⟨(Lib.itoa e.p).toArray⟩,.string ⟨(Lib.itoa e.k).toArray⟩,.string ⟨(Lib.itoa e.a).toArray⟩,.string ⟨(Lib.itoa e.b).toArray⟩,.string ⟨(Lib.itoa e.r).toArray⟩]) (.int .i64 1)).run Tryz.prog w=.ok (.string ⟨(Lib.itoa e.k).toArray⟩) w:=fun _=>by kernel_rfl
  have j2:∀w:World,(Instr.index 289 (.agg #[.string ⟨(Lib.itoa e.p).toArray⟩,.string ⟨(Lib.itoa e.k).toArray⟩,.string ⟨(Lib.itoa e.a).toArray⟩,.string ⟨(Lib.itoa e.b).toArray⟩,.string ⟨(Lib.itoa e.r).toArray⟩]) (.int .i64 2)).run Tryz.prog w=.ok (.string ⟨(Lib.itoa e.a).toArray⟩) w:=fun _=>by kernel_rfl
  have j3:∀w:World,(Instr.index 289 (.agg #[.string ⟨(Lib.itoa e.p).toArray⟩,.string ⟨(Lib.itoa e.k).toArray⟩,.string ⟨(Lib.itoa e.a).toArray⟩,.string ⟨(Lib.itoa e.b).toArray⟩,.string ⟨(Lib.itoa e.r).toArray⟩]) (.int .i64 3)).run Tryz.prog w=.ok (.string ⟨(Lib.itoa e.b).toArray⟩) w:=fun _=>by kernel_rfl
  have j4:∀w:World,(Instr.index 289 (.agg #[.string ⟨(Lib.itoa e.p).toArray⟩,.string ⟨(Lib.itoa e.k).toArray⟩,.string ⟨(Lib.itoa e.a).toArray⟩,.string ⟨(Lib.itoa e.b).toArray⟩,.string ⟨(Lib.itoa e.r).toArray⟩]) (.int .i64 4)).run Tryz.prog w=.ok (.string ⟨(Lib.itoa e.r).toArray⟩) w:=fun _=>by kernel_rfl
  have hk5:k=0∨k=1∨k=2∨k=3∨k=4∨k=5:=by omega
  rcases hk5 with rfl | rfl | rfl | rfl | rfl | rfl
  ·go_wp2_with fail
   refine(number_any e.p HS.out.2.1 wr (HP.out.below (belJ HB1.out HNX.out) h9) (by omega)).mono ?_;rintro x w2 ⟨rfl,hb2⟩;have hn2:NumW w2 (w.heap.size+1) 0 0 0 0 0:=NumW.below (W:=wr) HNU.out (by omega) hb2;have HB5:=hideIt (belJ HNX.out hb2);have hl2:W1.heap.size < w2.heap.size:=Nat.lt_of_lt_of_le hlx hb2.size;have HN5:=hideIt hn2;obtain⟨⟨q0,q1,q2,q3,q4⟩,qf⟩:=hn2;clear hb2;go_wp2_with fail
   exact⟨⟨1,by omega,rfl,(show NumW _ _ e.p 0 0 0 0 from⟨⟨(World.cell?_setCell_same _ _ _ q0),((World.cell?_setCell_other _ _ _ _ (by simp)).trans q1),((World.cell?_setCell_other _ _ _ _ (by simp)).trans q2),((World.cell?_setCell_other _ _ _ _ (by simp)).trans q3),((World.cell?_setCell_other _ _ _ _ (by simp)).trans q4)⟩,fun j=>(by simp;exact qf j)⟩),HB5.out.setCell (by show W1.heap.size≤w.heap.size+1;omega) _,by simpa using hl2⟩,by simp[intOf]⟩
  ·go_wp2_with fail
   refine(number_any e.k HS.out.2.2.1 wr (HP.out.below (belJ HB1.out HNX.out) h9) (by omega)).mono ?_;rintro x w2 ⟨rfl,hb2⟩;have hn2:NumW w2 (w.heap.size+1) e.p 0 0 0 0:=NumW.below (W:=wr) HNU.out (by omega) hb2;have HB5:=hideIt (belJ HNX.out hb2);have hl2:W1.heap.size < w2.heap.size:=Nat.lt_of_lt_of_le hlx hb2.size;have HN5:=hideIt hn2;obtain⟨⟨q0,q1,q2,q3,q4⟩,qf⟩:=hn2;clear hb2;go_wp2_with fail
   exact⟨⟨2,by omega,rfl,(show NumW _ _ e.p e.k 0 0 0 from⟨⟨((World.cell?_setCell_other _ _ _ _ (by simp)).trans q0),(World.cell?_setCell_same _ _ _ q1),((World.cell?_setCell_other _ _ _ _ (by simp)).trans q2),((World.cell?_setCell_other _ _ _ _ (by simp)).trans q3),((World.cell?_setCell_other _ _ _ _ (by simp)).trans q4)⟩,fun j=>(by simp;exact qf j)⟩),HB5.out.setCell (by show W1.heap.size≤w.heap.size+1;omega) _,by simpa using hl2⟩,by simp[intOf]⟩
  ·go_wp2_with fail
   refine(number_any e.a HS.out.2.2.2.1 wr (HP.out.below (belJ HB1.out HNX.out) h9) (by omega)).mono ?_;rintro x w2 ⟨rfl,hb2⟩;have hn2:NumW w2 (w.heap.size+1) e.p e.k 0 0 0:=NumW.below (W:=wr) HNU.out (by omega) hb2;have HB5:=hideIt (belJ HNX.out hb2);have hl2:W1.heap.size < w2.heap.size:=Nat.lt_of_lt_of_le hlx hb2.size;have HN5:=hideIt hn2;obtain⟨⟨q0,q1,q2,q3,q4⟩,qf⟩:=hn2;clear hb2;go_wp2_with fail
   exact⟨⟨3,by omega,rfl,(show NumW _ _ e.p e.k e.a 0 0 from⟨⟨((World.cell?_setCell_other _ _ _ _ (by simp)).trans q0),((World.cell?_setCell_other _ _ _ _ (by simp)).trans q1),(World.cell?_setCell_same _ _ _ q2),((World.cell?_setCell_other _ _ _ _ (by simp)).trans q3),((World.cell?_setCell_other _ _ _ _ (by simp)).trans q4)⟩,fun j=>(by simp;exact qf j)⟩),HB5.out.setCell (by show W1.heap.size≤w.heap.size+1;omega) _,by simpa using hl2⟩,by simp[intOf]⟩
  ·go_wp2_with fail
   refine(number_any e.b HS.out.2.2.2.2.1 wr (HP.out.below (belJ HB1.out HNX.out) h9) (by omega)).mono ?_;rintro x w2 ⟨rfl,hb2⟩;have hn2:NumW w2 (w.heap.size+1) e.p e.k e.a 0 0:=NumW.below (W:=wr) HNU.out (by omega) hb2;have HB5:=hideIt (belJ HNX.out hb2);have hl2:W1.heap.size < w2.heap.size:=Nat.lt_of_lt_of_le hlx hb2.size;have HN5:=hideIt hn2;obtain⟨⟨q0,q1,q2,q3,q4⟩,qf⟩:=hn2;clear hb2;go_wp2_with fail
   exact⟨⟨4,by omega,rfl,(show NumW _ _ e.p e.k e.a e.b 0 from⟨⟨((World.cell?_setCell_other _ _ _ _ (by simp)).trans q0),((World.cell?_setCell_other _ _ _ _ (by simp)).trans q1),((World.cell?_setCell_other _ _ _ _ (by simp)).trans q2),(World.cell?_setCell_same _ _ _ q3),((World.cell?_setCell_other _ _ _ _ (by simp)).trans q4)⟩,fun j=>(by simp;exact qf j)⟩),HB5.out.setCell (by show W1.heap.size≤w.heap.size+1;omega) _,by simpa using hl2⟩,by simp[intOf]⟩
  ·go_wp2_with fail
   refine(number_any e.r HS.out.2.2.2.2.2 wr (HP.out.below (belJ HB1.out HNX.out) h9) (by omega)).mono ?_;rintro x w2 ⟨rfl,hb2⟩;have hn2:NumW w2 (w.heap.size+1) e.p e.k e.a e.b 0:=NumW.below (W:=wr) HNU.out (by omega) hb2;have HB5:=hideIt (belJ HNX.out hb2);have hl2:W1.heap.size < w2.heap.size:=Nat.lt_of_lt_of_le hlx hb2.size;have HN5:=hideIt hn2;obtain⟨⟨q0,q1,q2,q3,q4⟩,qf⟩:=hn2;clear hb2;go_wp2_with fail
   exact⟨⟨5,by omega,rfl,(show NumW _ _ e.p e.k e.a e.b e.r from⟨⟨((World.cell?_setCell_other _ _ _ _ (by simp)).trans q0),((World.cell?_setCell_other _ _ _ _ (by simp)).trans q1),((World.cell?_setCell_other _ _ _ _ (by simp)).trans q2),((World.cell?_setCell_other _ _ _ _ (by simp)).trans q3),(World.cell?_setCell_same _ _ _ q4)⟩,fun j=>(by simp;exact qf j)⟩),HB5.out.setCell (by show W1.heap.size≤w.heap.size+1;omega) _,by simpa using hl2⟩,by simp[intOf]⟩
  ·have hn5:NumW wr (w.heap.size+1) e.p e.k e.a e.b e.r:=HNU.out;have HN5:=hideIt hn5;clear hn5 j0 j1 j2 j3 j4 HNU HN2 HN3 HB2 HB3 HL2;have m1:=(HNX.out.cell (p:=⟨A,1,none⟩) hA1).trans HC.out.2.1;have m2:=(HNX.out.cell (p:=⟨A,2,none⟩) hA1).trans HC.out.2.2.1;have hAr:A < wr.heap.size:=by omega
   have HT:Hid (∀W:World,Calls Tryz.prog 128 #[.slice (some ⟨W.heap.size,0,none⟩) 5 5,.string ⟨(typeN e.t).toArray⟩] (W.alloc (.cells typeCells 9)) fun x w'=>x=.returned (.int .i64 e.t)∧w'=W.alloc (.cells typeCells 9)):=hideIt (fun W=>type_index W HS.out.1.1 HS.out.1.2.1);have HK:Hid (∀W:World,Calls Tryz.prog 128 #[.slice (some ⟨W.heap.size,0,none⟩) 13 13,.string ⟨(kindN e.d).toArray⟩] (W.alloc (.cells kindCells 9)) fun x w'=>x=.returned (.int .i64 e.d)∧w'=W.alloc (.cells kindCells 9)):=hideIt (fun W=>kind_index W HS.out.1.2.2.1 HS.out.1.2.2.2);go_wp2_with fail
   refine wp_region_held_drew (S:=fun w'=>w'.cell? ⟨A,1,none⟩=some (.string ⟨(typeN e.t).toArray⟩)∧w'.cell? ⟨A,2,none⟩=some (.string ⟨(kindN e.d).toArray⟩)) (by kernel_rfl) ⟨(by simpa using m1),(by simpa using m2)⟩ (fun hHeld=>?_);refine tkH 1 ?_ rfl ?_ ?_;rotate_left 1
   ·intro w ⟨s0,s1⟩;go_simp;all_goals with_reducible rfl
   simp only[Act.put,p1,p2,p3,p4,p5,p6];refine tkH 2 ?_ rfl ?_ ?_;rotate_left 1
   ·intro w ⟨s0,s1⟩;go_simp;all_goals with_reducible rfl
   simp only[Act.put,p1,p2,p3,p4,p5,p6];refine tkH 3 ?_ rfl ?_ ?_;rotate_left 1
   ·intro w ⟨s0,s1⟩;go_simp;all_goals with_reducible rfl
   simp only[Act.put,p1,p2,p3,p4,p5,p6];refine tkH 6 ?_ rfl ?_ ?_;rotate_left 1
   ·intro w ⟨s0,s1⟩;go_simp;all_goals with_reducible rfl
   simp only[Act.put,p1,p2,p3,p4,p5,p6];refine tkH 7 ?_ rfl ?_ ?_;rotate_left 1
   ·intro w ⟨s0,s1⟩;go_simp;all_goals with_reducible rfl
   simp only[Act.put,p1,p2,p3,p4,p5,p6];refine tkH 8 ?_ rfl ?_ ?_;rotate_left 1
   ·intro w ⟨s0,s1⟩;go_simp;all_goals with_reducible rfl
   simp only[Act.put,p1,p2,p3,p4,p5,p6];refine wpAnyH_ready (rs:= [0]) (by kernel_rfl) (by simp) (AllReadyH.cons rfl (fun K hK=>?_) AllReadyH.nil);go_simp;refine(typeNames_any _).mono ?_;rintro x w2 ⟨rfl,hw2⟩;have HB2:Hid (Below wr.heap.size wr w2):=hideIt (by rw[hw2];exact(Below.drew (Below.refl wr.heap.size wr)).alloc (by simp) _);have HT2:Hid (Calls Tryz.prog 128 #[.slice (some ⟨wr.heap.size,0,none⟩) 5 5,.string ⟨(typeN e.t).toArray⟩] w2 fun x w'=>x=.returned (.int .i64 e.t)∧w'=w2):=hideIt (by rw[hw2];exact HT.out wr.drew);clear hw2 HT;refine hK.out _ _ ?_ (fun hHeld=>?_)
   ·exact⟨(HB2.out.cell hAr).trans m1,(HB2.out.cell hAr).trans m2⟩
   clear hK K;refine wpAnyH_ready (rs:= [4]) (by kernel_rfl) (by simp) (AllReadyH.cons rfl (fun K hK=>?_) AllReadyH.nil);go_simp;refine HT2.out.mono ?_;rintro x w2' ⟨rfl,rfl⟩;refine hK.out _ _ hHeld (fun hHeld2=>?_);clear hK K hHeld;refine wpAnyH_ready (rs:= [5]) (by kernel_rfl) (by simp) (AllReadyH.cons rfl (fun K hK=>?_) AllReadyH.nil);go_simp;refine(kindNames_any _).mono ?_;rintro x w3 ⟨rfl,hw3⟩;have HB3:Hid (Below wr.heap.size wr w3):=hideIt (by rw[hw3];exact HB2.out.alloc HB2.out.size _);have HK3:Hid (Calls Tryz.prog 128 #[.slice (some ⟨w2'.heap.size,0,none⟩) 13 13,.string ⟨(kindN e.d).toArray⟩] w3 fun x w'=>x=.returned (.int .i64 e.d)∧w'=w3):=hideIt (by rw[hw3];exact HK.out w2');clear hw3 HK;refine hK.out _ _ ?_ (fun hHeld=>?_)
   ·exact⟨(HB3.out.cell hAr).trans m1,(HB3.out.cell hAr).trans m2⟩
   clear hK K hHeld2;refine wpAnyH_ready (rs:= [9]) (by kernel_rfl) (by simp) (AllReadyH.cons rfl (fun K hK=>?_) AllReadyH.nil);go_simp;refine HK3.out.mono ?_;rintro x w3' ⟨rfl,rfl⟩;refine hK.out _ _ hHeld (fun hHeld2=>?_);clear hK K hHeld;refine tkH 10 ?_ rfl ?_ ?_;rotate_left 1
   ·intro w ⟨s0,s1⟩;go_simp;all_goals with_reducible rfl
   simp only[Act.put,p1,p2,p3,p4,p5,p6];refine tkH 11 ?_ rfl ?_ ?_;rotate_left 1
   ·intro w ⟨s0,s1⟩;go_simp;all_goals with_reducible rfl
   simp only[Act.put,p1,p2,p3,p4,p5,p6];refine wpAnyH_done (by kernel_rfl) ?_ _;clear hHeld2 m1 m2;have t1:(1:Int)≤e.t:=HS.out.1.1;have d1:(1:Int)≤e.d:=HS.out.1.2.2.1;have hl3:wr.heap.size≤w3'.heap.size:=HB3.out.size;have hn5:NumW w3' (w.heap.size+1) e.p e.k e.a e.b e.r:=HN5.out.below (by omega) HB3.out;obtain⟨⟨q0,q1,q2,q3,q4⟩,qf⟩:=hn5;have g1:decide (e.t < 1)=false:=by simp;omega
   have g2:decide (e.d < 1)=false:=by simp;omega
   go_wp2_with fail
   have hl4:wr.heap.size≤(w3'.alloc e.obj).heap.size:=by simp;omega
   have HB4:=hideIt (HB3.out.alloc HB3.out.size e.obj);have HE4:=hideIt (ev7_new w3' e);obtain⟨W4,hW4⟩:∃W4,W4=w3'.alloc e.obj:=⟨_,rfl⟩;rw[←hW4] at hl4 HB4 HE4;have hl34:w3'.heap.size < W4.heap.size:=by rw[hW4];simp
   unfold Ev.obj at hW4;rw[←hW4];clear hW4 q0 q1 q2 q3 q4 qf g1 g2;have HF:Hid (∀W,Calls Tryz.prog 59 #[.agg #[.int .i64 e.p,.int .i64 e.t,.int .i64 e.k,.int .i64 e.d,.int .i64 e.a,.int .i64 e.b,.int .i64 e.r]] W fun ev w'=>ev=.returned (.int .i64 0)∧w'=W.alloc (.cells #[.int .i64 e.p,.int .i64 e.t,.int .i64 e.k,.int .i64 e.d,.int .i64 e.a,.int .i64 e.b,.int .i64 e.r] 54)):=hideIt (fun W=>by
    have:=fault_any e.p e.t e.k e.d e.a e.b e.r W;rw[show faultN e.p e.t e.k e.d e.a e.b e.r=0 from HZ.out] at this;exact this)
   obtain⟨y0,y1,y2,y3,y4,y5,y6⟩:=HE4.out;refine wp_region_held_drew (S:=fun w'=>w'.cell? ⟨w3'.heap.size,0,none⟩=some (.int .i64 e.p)∧w'.cell? ⟨w3'.heap.size,1,none⟩=some (.int .i64 e.t)∧w'.cell? ⟨w3'.heap.size,2,none⟩=some (.int .i64 e.k)∧w'.cell? ⟨w3'.heap.size,3,none⟩=some (.int .i64 e.d)∧w'.cell? ⟨w3'.heap.size,4,none⟩=some (.int .i64 e.a)∧w'.cell? ⟨w3'.heap.size,5,none⟩=some (.int .i64 e.b)∧w'.cell? ⟨w3'.heap.size,6,none⟩=some (.int .i64 e.r)) (by kernel_rfl) ⟨(by simpa using y0),(by simpa using y1),(by simpa using y2),(by simpa using y3),(by simpa using y4),(by simpa using y5),(by simpa using y6)⟩ (fun hHeld=>?_);refine tkH 0 ?_ rfl ?_ ?_;rotate_left 1
   ·intro w ⟨s0,s1,s2,s3,s4,s5,s6⟩;go_simp;all_goals with_reducible rfl
   simp only[Act.put,p1,p2,p3,p4,p5];refine tkH 1 ?_ rfl ?_ ?_;rotate_left 1
   ·intro w ⟨s0,s1,s2,s3,s4,s5,s6⟩;go_simp;all_goals with_reducible rfl
   simp only[Act.put,p1,p2,p3,p4,p5,p6];refine wpAnyH_ready (rs:= [2]) (by kernel_rfl) (by simp) (AllReadyH.cons rfl (fun K hK=>?_) AllReadyH.nil);go_simp;refine(HF.out _).mono ?_;rintro x w5 ⟨rfl,hw5⟩;have HB5:Hid (Below W4.heap.size W4 w5):=hideIt (by rw[hw5];exact(Below.drew (Below.refl W4.heap.size W4)).alloc (by simp) _);clear hw5;have HB6:Hid (Below W1.heap.size W1 w5):=hideIt (HNX.out.trans ((HB4.out.trans (HB5.out.mono hl4)).mono (by omega)));refine hK.out _ _ ?_ (fun hHeld=>?_)
   ·exact⟨(HB5.out.cell hl34).trans y0,(HB5.out.cell hl34).trans y1,(HB5.out.cell hl34).trans y2,(HB5.out.cell hl34).trans y3,(HB5.out.cell hl34).trans y4,(HB5.out.cell hl34).trans y5,(HB5.out.cell hl34).trans y6⟩
   clear hK K;have hr:=zero7 w;rw[←HW1.out] at hr;have hRl:w.heap.size < W1.heap.size:=by omega
   obtain⟨r0,r1,r2,r3,r4,r5,r6⟩:=hr.1;have r0:=(HB6.out.cell hRl).trans r0;have r1:=(HB6.out.cell hRl).trans r1;have r2:=(HB6.out.cell hRl).trans r2;have r3:=(HB6.out.cell hRl).trans r3;have r4:=(HB6.out.cell hRl).trans r4;have r5:=(HB6.out.cell hRl).trans r5;have r6:=(HB6.out.cell hRl).trans r6;have rf:∀j,w5.frozen? ⟨w.heap.size,j,none⟩=false:=fun j=>(World.frozen?_of_block (a:=⟨w.heap.size,j,none⟩) (HB6.out.block _ hRl)).trans (hr.2 j)
   clear hr;refine wpAnyH_ready (rs:= [3]) (by kernel_rfl) (by simp) (AllReadyH.cons rfl (fun K hK=>?_) AllReadyH.nil);go_simp;have HE7:=hideIt (set7 w5 w.heap.size e ⟨r0,r1,r2,r3,r4,r5,r6⟩);have HFA:=hideIt (fun j=>set7_far w5 w.heap.size w3'.heap.size j e (by omega));have HB7:=hideIt (set7_below e (HB1.out.trans (HB6.out.mono (by omega))));refine hK.out _ _ ?_ (fun hHeld2=>?_)
   ·obtain⟨s0,s1,s2,s3,s4,s5,s6⟩:=hHeld;exact⟨(HFA.out 0).trans s0,(HFA.out 1).trans s1,(HFA.out 2).trans s2,(HFA.out 3).trans s3,(HFA.out 4).trans s4,(HFA.out 5).trans s5,(HFA.out 6).trans s6⟩
   clear hK K hHeld HFA r0 r1 r2 r3 r4 r5 r6 rf;refine tkH 4 ?_ rfl ?_ ?_;rotate_left 1
   ·intro w ⟨s0,s1,s2,s3,s4,s5,s6⟩;go_simp;all_goals with_reducible rfl
   simp only[Act.put,p1,p2,p3,p4,p5,p6];refine wpAnyH_done (by kernel_rfl) ?_ _;clear hHeld2;obtain⟨W8,hW8⟩:∃W8,W8=(((((((w5.setCell ⟨w.heap.size,0,none⟩ (.int .i64 e.p)).setCell ⟨w.heap.size,1,none⟩ (.int .i64 e.t)).setCell ⟨w.heap.size,2,none⟩ (.int .i64 e.k)).setCell ⟨w.heap.size,3,none⟩ (.int .i64 e.d)).setCell ⟨w.heap.size,4,none⟩ (.int .i64 e.a)).setCell ⟨w.heap.size,5,none⟩ (.int .i64 e.b)).setCell ⟨w.heap.size,6,none⟩ (.int .i64 e.r)):=⟨_,rfl⟩;rw[←hW8] at HE7 HB7;rw[←hW8];clear hW8;obtain⟨z0,z1,z2,z3,z4,z5,z6⟩:=HE7.out;go_wp2_with fail
   (try simp only[Exit.inBlock,Exit.then])
   refine bodyPost_ret (ret35 _ _ w.heap.size e rfl HE7.out) rfl ?_;exact⟨rfl,HB7.out⟩
end Go.Proofs.YtjpklmighoondaaGreatDoor
