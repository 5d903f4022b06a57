/-
  A plan's text, walked: Parse, at the text that the statements take.
  A plan's text, walked: Parse, at the text that the statements take.
-/
import Derived.Test.YtjpklmighoondaaGreatDoorFaZY
import Derived.Test.YtjpklmighoondaaGreatDoorSwMY
import Derived.Test.YtjpklmighoondaaGreatDoorGatherY
import Derived.RangeFuncWrites
namespace Go.Proofs.YtjpklmighoondaaGreatDoor.Fa
open Go.RowKit Go.Lib Go.Shelf
attribute [local go_sem] Oper.semAt_some
def ls0:List (List UInt8):= [[110,111,100,101,115,32,51],[99,108,105,101,110,116,115,32,49],[113,117,111,114,117,109,32,50,32,50],[103,101,110,32,108,105,109,105,116,32,49,32,119,114,105,116,101,32,48,32,53,32,53]]
theorem ls0_lines:∀e∈ls0,∀c∈e,c.toNat≠10:=by decide
theorem ls0_len:(textB ls0).length≤100000:=by decide
def nameI:Nat→List UInt8
 | 0=> [110,111,100,101,115]
 | 1=> [99,108,105,101,110,116,115]
 | 2=> [113,117,111,114,117,109]
 | _=> [103,101,110]
def gen0:List UInt8:= [108,105,109,105,116,32,49,32,119,114,105,116,101,32,48,32,53,32,53]
def restI:Nat→List UInt8
 | 0=> [51]
 | 1=> [49]
 | 2=> [50,32,50]
 | _=>gen0
def eff (cs:Array Value):Nat→Array Value
 | 0=>cs.setIfInBounds 0 (.int .i64 3)
 | 1=>cs.setIfInBounds 1 (.int .i64 1)
 | 2=>(cs.setIfInBounds 2 (.int .i64 2)).setIfInBounds 3 (.int .i64 2)
 | 3=>cs.setIfInBounds 6 (.string (Gn.ba gen0))
 | _=>cs
def effs (cs:Array Value) (l:List Nat):Array Value:=l.foldl eff cs
theorem eff_size (cs:Array Value):∀i,(eff cs i).size=cs.size
 | 0=>by simp[eff]
 | 1=>by simp[eff]
 | 2=>by simp[eff]
 | 3=>by simp[eff]
 | _+4=>rfl
theorem effs_size (l:List Nat):∀cs:Array Value,(effs cs l).size=cs.size:=by
 induction l with
 | nil=>intro cs;rfl
 | cons i l ih=>intro cs;exact(ih (eff cs i)).trans (eff_size cs i)
theorem effs_snoc (cs:Array Value) (l:List Nat) (i:Nat):effs cs (l++ [i])=eff (effs cs l) i:=by unfold effs;rw[List.foldl_append];rfl
def nms (l:List Nat):List (List UInt8):=((l.filter (· < 4)).map nameI).reverse
theorem nms_snoc (l:List Nat) {i:Nat} (h:i < 4):nms (l++ [i])=nameI i::nms l:=by unfold nms;simp[List.filter_append,h]
theorem nms_end (l:List Nat) {i:Nat} (h:¬i < 4):nms (l++ [i])=nms l:=by unfold nms;simp[List.filter_append,h]
theorem name_inj (i j:Nat) (hi:i < 4) (hj:j < 4) (h:nameI i=nameI j):i=j:=by
 have h1:i=0∨i=1∨i=2∨i=3:=by omega
 have h2:j=0∨j=1∨j=2∨j=3:=by omega
 rcases h1 with rfl | rfl | rfl | rfl<;>rcases h2 with rfl | rfl | rfl | rfl<;>first | rfl | (exact absurd h (by decide))
theorem nms_mem {l:List Nat} {i:Nat} (h:i < 4) (hc:(nms l).contains (nameI i)=true):¬(l++ [i]).Nodup:=by
 intro hd;unfold nms at hc;rw[List.contains_iff_mem,List.mem_reverse,List.mem_map] at hc;obtain⟨j,hj,e⟩:=hc;rw[List.mem_filter] at hj;have hj4:j < 4:=by simpa using hj.2
 have:=name_inj j i hj4 h e;subst this;rw[List.nodup_append] at hd;exact hd.2.2 j hj.1 j (by simp) rfl
theorem cut_i (i:Nat) (h:i < 4):Lib.cut (lineAt ls0 i) [32]=(nameI i,restI i,true):=by
 have:i=0∨i=1∨i=2∨i=3:=by omega
 rcases this with rfl | rfl | rfl | rfl<;>decide
theorem gen0_reads:Gn.parseF gen0=some g1:=by rfl
theorem hear_i (i:Nat) (hi:i < 4) (P:Nat) (cs:Array Value) (m:Int) (w:World) (hP:w.heap[P]?=some (.cells cs 25 (0,0))) (h8:cs.size=8) (hx:TxW w P m):
  Calls Tryz.prog 41 #[.pointer (some ⟨P,0,none⟩),.string ⟨(nameI i).toArray⟩,.string ⟨(restI i).toArray⟩] w fun e w'=>e=.returned (.int .i64 0)∧Gn.Fr [P] w w'∧w'.heap[P]?=some (.cells (eff cs i) 25 (0,0)):=by
 have:i=0∨i=1∨i=2∨i=3:=by omega
 rcases this with rfl | rfl | rfl | rfl
 ·exact hear_nodes [51] 3 (by decide) (by decide+kernel) (by decide+kernel) (by decide+kernel) P cs m w hP h8 hx
 ·exact hear_clients [49] 1 (by decide) (by decide+kernel) (by decide+kernel) (by decide+kernel) P cs m w hP h8 hx
 ·exact hear_quorum [50,32,50] [50] [50] 2 2 (by decide) (by decide+kernel) (by decide+kernel) (by decide+kernel) P cs m w hP h8 hx
 ·exact hear_gen gen0 g1 gen0_reads P cs m w hP h8 hx
open Go.RowKit Go.Lib Go.Shelf
attribute [local go_sem] Oper.semAt_some
def planZ:Obj:=.cells #[.int .i64 0,.int .i64 0,.int .i64 0,.int .i64 0,.bool false,.string ⟨#[]⟩,.string ⟨#[]⟩,.int .i64 0] 25 (0,0)
def cs0:Array Value:=#[.int .i64 0,.int .i64 0,.int .i64 0,.int .i64 0,.bool true,.string ⟨#[]⟩,.string ⟨#[]⟩,.int .i64 10000]
def PJ (w:World) (l:List Nat) (W:World):Prop:=
 W.heap[w.heap.size]?=some planZ∧W.heap[w.heap.size+1]?=some (.cells #[.nilIface] 29 (0,0))∧W.heap[w.heap.size+2]?=some (.cells (effs cs0 l) 25 (0,0))∧SetU W (w.heap.size+3) (nms l)∧W.heap[w.heap.size+4]?=some (.cells #[.map (some (w.heap.size+3))] 92 (0,0))∧
  W.heap[w.heap.size+5]?=some (.cells #[.string ⟨(textB ls0).toArray⟩] 9 (0,0))∧Below w.heap.size w W
theorem PJ.own (w:World) (B:Nat) (hB:w.heap.size+6≤B):OwnFrom B (fun (pre:List (Rd ls0)) W=>PJ w (pre.map (·.1)) W):=by
 rintro s W W' row ⟨h0,h1,h2,h3,h4,h5,hb⟩ hg hr;have key:∀{b:Nat} {o:Obj},b < w.heap.size+6→W.heap[b]?=some o→W'.heap[b]?=some o:=fun hb' h=>(hg.block _ (lt_of_heap h) (fun e=>by have:=(hr _ e.symm).1;omega)).trans h
 obtain⟨es,clock,hm⟩:=h3.isMap;exact⟨key (by omega) h0,key (by omega) h1,key (by omega) h2,h3.same ((key (by omega) hm).trans hm.symm),key (by omega) h4,key (by omega) h5,hb.grown hg hb.size fun b hb'=>by have:=(hr b hb').1;omega⟩
set_option maxRecDepth 100000 in
set_option maxHeartbeats 8000000 in
theorem parse0 (m:Int) (w:World) (hx:TxW w (w.heap.size+2) m) (h9:2≤w.heap.size):
  Calls Tryz.prog 17 #[.string ⟨(textB ls0).toArray⟩] w fun e w'=>e=.returned (.tuple #[.agg #[.int .i64 3,.int .i64 1,.int .i64 2,.int .i64 2,.bool true,.string ⟨#[]⟩,.string (Gn.ba gen0),.int .i64 10000],.nilIface])∧Below w.heap.size w w':=by
 have HX:=hideIt hx;have hmm:= @run_makeMap Tryz.prog;clear hx;refine(callsIn_wide (n:=4)).1 ?_;refine callsIn_of_wp_marks Tryz.func17 rfl trivial ?_ rfl;simp only[Tryz.ntmps17,List.size_toArray,List.length_cons,List.length_nil,Nat.reduceAdd,Nat.reduceSub,Array.replicate_succ,Array.replicate_zero,List.push_toArray,List.append_toArray,List.nil_append,List.cons_append];have hlen:(textB ls0).length=53:=by decide
 have g1:decide (20000 < ((textB ls0).length:Int))=false:=by rw[hlen];decide
 gi_wp2
 refine⟨trivial,?_⟩;refine(callsIn_wide.2 (lines_call _ _)).mono ?_;rintro e w' ⟨rfl,rfl⟩
 gi_wp2
 obtain⟨W0,hW0⟩:∃W0,W0=(((((w.alloc (.cells #[.int .i64 0,.int .i64 0,.int .i64 0,.int .i64 0,.bool false,.string ⟨#[]⟩,.string ⟨#[]⟩,.int .i64 0] 25)).alloc (.cells #[.nilIface] 29)).alloc (.cells #[.int .i64 0,.int .i64 0,.int .i64 0,.int .i64 0,.bool true,.string ⟨#[]⟩,.string ⟨#[]⟩,.int .i64 10000] 25)).alloc (.map #[] 0)).alloc (.cells #[.map (some (w.heap.size+1+1+1))] 92)).alloc (.cells #[.string ⟨(textB ls0).toArray⟩] 9):=⟨_,rfl⟩;have hs0:W0.heap.size=w.heap.size+6:=by rw[hW0];simp[World.size_alloc]
 have hJ0:PJ w [] W0:=by
  have up:∀{Z:World} {b:Nat} {o:Obj} (o':Obj),Z.heap[b]?=some o→(Z.alloc o').heap[b]?=some o:=fun o' h=>(Below.heap_alloc _ o' _ (lt_of_heap h)).trans h
  rw[hW0];refine⟨up _ (up _ (up _ (up _ (up _ (heap_alloc_new w _))))),?_,?_,?_,?_,?_,St.belA (St.belA (St.belA (St.belA (St.belA (St.belA (Below.refl _ _) _) _) _) _) _) _⟩
  ·have:=up (.cells #[.string ⟨(textB ls0).toArray⟩] 9) (up (.cells #[.map (some (w.heap.size+1+1+1))] 92) (up (.map #[] 0) (up (.cells #[.int .i64 0,.int .i64 0,.int .i64 0,.int .i64 0,.bool true,.string ⟨#[]⟩,.string ⟨#[]⟩,.int .i64 10000] 25) (heap_alloc_new (w.alloc (.cells #[.int .i64 0,.int .i64 0,.int .i64 0,.int .i64 0,.bool false,.string ⟨#[]⟩,.string ⟨#[]⟩,.int .i64 0] 25)) (.cells #[.nilIface] 29)))))
   rwa [World.size_alloc] at this
  ·have:=up (.cells #[.string ⟨(textB ls0).toArray⟩] 9) (up (.cells #[.map (some (w.heap.size+1+1+1))] 92) (up (.map #[] 0) (heap_alloc_new ((w.alloc (.cells #[.int .i64 0,.int .i64 0,.int .i64 0,.int .i64 0,.bool false,.string ⟨#[]⟩,.string ⟨#[]⟩,.int .i64 0] 25)).alloc (.cells #[.nilIface] 29)) (.cells #[.int .i64 0,.int .i64 0,.int .i64 0,.int .i64 0,.bool true,.string ⟨#[]⟩,.string ⟨#[]⟩,.int .i64 10000] 25))));simp only[World.size_alloc] at this;exact this
  ·have h0:=setU_made (((w.alloc (.cells #[.int .i64 0,.int .i64 0,.int .i64 0,.int .i64 0,.bool false,.string ⟨#[]⟩,.string ⟨#[]⟩,.int .i64 0] 25)).alloc (.cells #[.nilIface] 29)).alloc (.cells #[.int .i64 0,.int .i64 0,.int .i64 0,.int .i64 0,.bool true,.string ⟨#[]⟩,.string ⟨#[]⟩,.int .i64 10000] 25))
   have h1:SetU ((((((w.alloc (.cells #[.int .i64 0,.int .i64 0,.int .i64 0,.int .i64 0,.bool false,.string ⟨#[]⟩,.string ⟨#[]⟩,.int .i64 0] 25)).alloc (.cells #[.nilIface] 29)).alloc (.cells #[.int .i64 0,.int .i64 0,.int .i64 0,.int .i64 0,.bool true,.string ⟨#[]⟩,.string ⟨#[]⟩,.int .i64 10000] 25)).alloc (.map #[] 0)).alloc (.cells #[.map (some (w.heap.size+1+1+1))] 92)).alloc (.cells #[.string ⟨(textB ls0).toArray⟩] 9)) (((w.alloc (.cells #[.int .i64 0,.int .i64 0,.int .i64 0,.int .i64 0,.bool false,.string ⟨#[]⟩,.string ⟨#[]⟩,.int .i64 0] 25)).alloc (.cells #[.nilIface] 29)).alloc (.cells #[.int .i64 0,.int .i64 0,.int .i64 0,.int .i64 0,.bool true,.string ⟨#[]⟩,.string ⟨#[]⟩,.int .i64 10000] 25)).heap.size []:=(h0.same (w':=(((((w.alloc (.cells #[.int .i64 0,.int .i64 0,.int .i64 0,.int .i64 0,.bool false,.string ⟨#[]⟩,.string ⟨#[]⟩,.int .i64 0] 25)).alloc (.cells #[.nilIface] 29)).alloc (.cells #[.int .i64 0,.int .i64 0,.int .i64 0,.int .i64 0,.bool true,.string ⟨#[]⟩,.string ⟨#[]⟩,.int .i64 10000] 25)).alloc (.map #[] 0)).alloc (.cells #[.map (some (w.heap.size+1+1+1))] 92))) (Below.heap_alloc _ _ _ (by simp only[World.size_alloc];omega))).same (Below.heap_alloc _ _ _ (by simp only[World.size_alloc];omega));simp only[World.size_alloc] at h1;exact h1
  ·have:=up (.cells #[.string ⟨(textB ls0).toArray⟩] 9) (heap_alloc_new ((((w.alloc (.cells #[.int .i64 0,.int .i64 0,.int .i64 0,.int .i64 0,.bool false,.string ⟨#[]⟩,.string ⟨#[]⟩,.int .i64 0] 25)).alloc (.cells #[.nilIface] 29)).alloc (.cells #[.int .i64 0,.int .i64 0,.int .i64 0,.int .i64 0,.bool true,.string ⟨#[]⟩,.string ⟨#[]⟩,.int .i64 10000] 25)).alloc (.map #[] 0)) (.cells #[.map (some (w.heap.size+1+1+1))] 92));simp only[World.size_alloc] at this;exact this
  ·have:=heap_alloc_new (((((w.alloc (.cells #[.int .i64 0,.int .i64 0,.int .i64 0,.int .i64 0,.bool false,.string ⟨#[]⟩,.string ⟨#[]⟩,.int .i64 0] 25)).alloc (.cells #[.nilIface] 29)).alloc (.cells #[.int .i64 0,.int .i64 0,.int .i64 0,.int .i64 0,.bool true,.string ⟨#[]⟩,.string ⟨#[]⟩,.int .i64 10000] 25)).alloc (.map #[] 0)).alloc (.cells #[.map (some (w.heap.size+1+1+1))] 92)) (.cells #[.string ⟨(textB ls0).toArray⟩] 9);simp only[World.size_alloc] at this;exact this
 rw[←hW0];clear hW0;have hJ0':=hJ0;obtain⟨b0,b1,b2,b3,b4,b5,hB0⟩:=hJ0';have HJ0:=hideIt hJ0;have hc5:W0.cell? ⟨w.heap.size+1+1+1+1+1,0,none⟩=some (.string ⟨(textB ls0).toArray⟩):=by rw[cell_of_row _ _ _ _ 9 _ b5];rfl
 have hmW:W0.cell? ⟨1,0,none⟩=some (.int .i64 m):=(hB0.cell (p:=⟨1,0,none⟩) (by show 1 < w.heap.size;omega)).trans HX.out.mx;clear b0 b1 b2 b3 b4 b5 hJ0;refine wpIn_rangeFunc_ownG rfl (by omega) (gf:=88) (lb:=#[.pointer (some ⟨w.heap.size+1+1+1+1+1,0,none⟩)]) rfl trivial (enters_of (P:=Tryz.prog) Tryz.func88 (by kernel_rfl) rfl)
  (lines_stops ls0 ls0_lines ls0_len 3 (by omega) (w.heap.size+1+1+1+1+1) w.heap.size m W0 (by omega) (by omega) hc5 (by omega) hmW) keptL_t (keptL_b (by omega) (by omega)) (Below.refl _ _) (fun _=>rfl)
  (fun (pre:List (Rd ls0)) (W:World)=>PJ w (pre.map (fun (x:Rd ls0)=>x.val)) W)
  (fun (_:Code) (pre:List (Rd ls0)) (_:World)=>¬(pre.map (fun (x:Rd ls0)=>x.val)).Nodup)
  (PJ.own w _ (by omega)) (fun _ (_:List (Rd ls0)) (_:World) (_:World) _ hs _ _=>hs) HJ0.out
  (fun x=> {tmps:=#[.string ⟨(textB ls0).toArray⟩,undef,.pointer (some ⟨w.heap.size,0,none⟩),.pointer (some ⟨w.heap.size+1,0,none⟩),.pointer (some ⟨w.heap.size+1+1,0,none⟩),.pointer (some ⟨w.heap.size+1+1+1+1,0,none⟩),.int .i64 (placeAt ls0 x.1),.string ⟨(lineAt ls0 x.1).toArray⟩,undef,undef,undef,undef,undef,undef,undef,undef,undef,undef,undef,.string ⟨(textB ls0).toArray⟩,.int .i64 53,.bool false,undef,undef,.agg #[.int .i64 0,.int .i64 0,.int .i64 0,.int .i64 0,.bool true],.agg #[.int .i64 0,.int .i64 0,.int .i64 0,.int .i64 0,.bool true,.string ⟨#[]⟩,.string ⟨#[]⟩,.int .i64 10000],.map (some (w.heap.size+1+1+1)),.string ⟨(textB ls0).toArray⟩,.func (.func 88) #[] #[.pointer (some ⟨w.heap.size+1+1+1+1+1,0,none⟩)],.int .i64 (placeAt ls0 x.1),.string ⟨(lineAt ls0 x.1).toArray⟩,undef,undef,undef,undef,undef,undef,undef,undef,undef,undef,undef,undef,undef,undef,undef,undef,undef,undef,undef,undef,undef,undef,undef,undef,undef,undef,undef,undef,undef,undef,undef,undef,undef,undef,undef,undef,undef,undef,undef,undef,undef,undef,undef,undef,undef,undef,undef,undef,undef,undef,undef,undef,undef,undef,undef,undef,undef,undef,undef,undef,undef,undef],defers:= []}) ?assign ?body ?done ?stop
 case assign=>
  intro y x W K hK;unfold encL
  gi_wp2
  exact hK
 case body=>
  rintro y pre x W hJ hlt;have hls:ls0.length=4:=rfl;obtain⟨p0,p1,p2,p3,p4,p5,hB⟩:=hJ;have hTx:=HX.out.fr (Gn.fr_below hB [w.heap.size+2]);have hsz:=hB.size;by_cases hi:x.1 < 4
  ·have hnl:lineAt ls0 x.1≠ []:=by
    have:x.1=0∨x.1=1∨x.1=2∨x.1=3:=by omega
    rcases this with e | e | e | e<;>rw[e]<;>decide
   have hne:(lineAt ls0 x.1).isEmpty=false:=by
    have:x.1=0∨x.1=1∨x.1=2∨x.1=3:=by omega
    rcases this with e | e | e | e<;>rw[e]<;>decide
   have hl3:(lineAt ls0 x.1).length≤3000:=by
    have:x.1=0∨x.1=1∨x.1=2∨x.1=3:=by omega
    rcases this with e | e | e | e<;>rw[e]<;>decide
   have hCut:=Any.strings_Cut Gn.nu_lays145 ⟨(lineAt ls0 x.1).toArray⟩ ⟨#[32]⟩ m W (by simp[ByteArray.size];omega) hTx.mx;rw[show (⟨#[32]⟩:ByteArray).data.toList= [32] from rfl,show ((⟨(lineAt ls0 x.1).toArray⟩:ByteArray).data.toList)=lineAt ls0 x.1 from by simp,cut_i x.1 hi] at hCut;have HCut:Hid (Calls Tryz.prog 40 #[.string ⟨(lineAt ls0 x.1).toArray⟩,.string ⟨#[32]⟩] W fun e w'=>e=.returned (.tuple #[.string ⟨(nameI x.1).toArray⟩,.string ⟨(restI x.1).toArray⟩,.bool true])∧∃n,w'=W.drewN n):=hCut;have HH:=hideIt (fun n=>hear_i x.1 hi (w.heap.size+2) (effs cs0 (pre.map (fun (x:Rd ls0)=>x.val))) m (W.drewN n) p2 (by rw[effs_size];rfl) ((HX.out.fr (Gn.fr_below hB [w.heap.size+2])).fr (Gn.Fr.drewN [w.heap.size+2] W n)));have HP:=hideIt (And.intro p0 (And.intro p1 (And.intro p3 (And.intro p4 (And.intro p5 hB)))));have HI:=hideIt hi;clear p0 p1 p2 p3 p4 p5 hB hnl hl3 hCut hTx hc5 hmW hB0 HX;have hnml:(nameI x.1).length≤100000:=by
    have:x.1=0∨x.1=1∨x.1=2∨x.1=3:=by omega
    rcases this with e | e | e | e<;>rw[e]<;>decide
   generalize hnm:nameI x.1=nm at*
   have HNm:=hideIt hnm;clear hnm
   gi_wp2
   refine⟨trivial,?_⟩;refine(CallsIn.inRound y (callsIn_wide.2 HCut.out)).mono ?_;rintro ev w2 ⟨rfl,q,rfl⟩;have HH2:=hideIt (HH.out q);clear HH HCut
   gi_wp2
   refine⟨trivial,?_⟩;refine(CallsIn.inRound y (callsIn_wide.2 HH2.out)).mono ?_;rintro ev w3 ⟨rfl,hf,hrow⟩;have hf2:=(Gn.Fr.drewN [w.heap.size+2] W q).trans hf;have hk:∀{b:Nat} {o:Obj},W.heap[b]?=some o→b≠w.heap.size+2→w3.heap[b]?=some o:=fun h hb=>(hf2.block _ (lt_of_heap h) (by simpa using hb)).trans h
   have q4:=hk HP.out.2.2.2.1 (by omega);have q0:=hk HP.out.1 (by omega);have q1:=hk HP.out.2.1 (by omega);obtain⟨z0,z1,z2,z3,z4,z5,z6,z7⟩:w3.cell? ⟨w.heap.size,0,none⟩=some (.int .i64 0)∧w3.cell? ⟨w.heap.size,1,none⟩=some (.int .i64 0)∧w3.cell? ⟨w.heap.size,2,none⟩=some (.int .i64 0)∧w3.cell? ⟨w.heap.size,3,none⟩=some (.int .i64 0)∧w3.cell? ⟨w.heap.size,4,none⟩=some (.bool false)∧w3.cell? ⟨w.heap.size,5,none⟩=some (.string ⟨#[]⟩)∧w3.cell? ⟨w.heap.size,6,none⟩=some (.string ⟨#[]⟩)∧w3.cell? ⟨w.heap.size,7,none⟩=some (.int .i64 0):=
    ⟨by rw[cell_of_row _ _ _ _ 25 _ q0];rfl,by rw[cell_of_row _ _ _ _ 25 _ q0];rfl,by rw[cell_of_row _ _ _ _ 25 _ q0];rfl,by rw[cell_of_row _ _ _ _ 25 _ q0];rfl,by rw[cell_of_row _ _ _ _ 25 _ q0];rfl,by rw[cell_of_row _ _ _ _ 25 _ q0];rfl,by rw[cell_of_row _ _ _ _ 25 _ q0];rfl,by rw[cell_of_row _ _ _ _ 25 _ q0];rfl⟩
   have hz:∀i,w3.frozen? ⟨w.heap.size,i,none⟩=false:=fun i=>frozen_of_row _ _ _ _ 25 q0
   have y0:=hz 0;have y1:=hz 1;have y2:=hz 2;have y3:=hz 3;have y4:=hz 4;have y5:=hz 5;have y6:=hz 6;have y7:=hz 7;have u0:w3.cell? ⟨w.heap.size+1,0,none⟩=some .nilIface:=by rw[cell_of_row _ _ _ _ 29 _ q1];rfl
   have uf:w3.frozen? ⟨w.heap.size+1,0,none⟩=false:=frozen_of_row _ _ _ _ 29 q1;have hlA:w.heap.size < w3.heap.size:=lt_of_heap q0;have hlB:w.heap.size+1 < w3.heap.size:=lt_of_heap q1;have hKp:KeepsFrom W0.heap.size W w3:=⟨hf2.size,fun k o hB2 hk2 _=>hk hk2 (by omega)⟩;have HKp:=hideIt hKp;clear q0 q1 hz hKp;have e4:w3.cell? ⟨w.heap.size+1+1+1+1,0,none⟩=some (.map (some (w.heap.size+3))):=by rw[cell_of_row _ _ _ _ 92 _ q4];rfl
   have hset:SetU w3 (w.heap.size+3) (nms (pre.map (fun (x:Rd ls0)=>x.val))):=by
    obtain⟨es,clock,hm⟩:=HP.out.2.2.1.isMap;exact HP.out.2.2.1.same ((hk hm (by omega)).trans hm.symm)
   have hlk:=hset.look nm hnml;have HSet:=hideIt hset;have HRow:=hideIt hrow;have HF:=hideIt hf2;have hlE:w.heap.size+1+1+1+1 < w3.heap.size:=lt_of_heap q4;have HK:=hideIt (fun (b:Nat) (o:Obj) (h:W.heap[b]?=some o) (hb:b≠w.heap.size+2)=>hk h hb);clear hset hrow hf hf2 hk q4 HH2;unfold strV at hlk;cases hct:(nms (pre.map (fun (x:Rd ls0)=>x.val))).contains nm with
   | true=>
    rw[hct] at hlk
    gi_wp2
    refine⟨?_,?_⟩
    ·exact(((((((((((HKp.out).trans ((KeepsOthers.setCell _ _ _).from _)).trans ((KeepsOthers.setCell _ _ _).from _)).trans ((KeepsOthers.setCell _ _ _).from _)).trans ((KeepsOthers.setCell _ _ _).from _)).trans ((KeepsOthers.setCell _ _ _).from _)).trans ((KeepsOthers.setCell _ _ _).from _)).trans ((KeepsOthers.setCell _ _ _).from _)).trans ((KeepsOthers.setCell _ _ _).from _)).trans ((KeepsOthers.setCell _ _ _).from _)).trans ((KeepsOthers.alloc _ _).from _)).trans ((KeepsOthers.alloc _ _).from _)
    ·have:=nms_mem (l:=pre.map (fun (x:Rd ls0)=>x.val)) HI.out (by rw[HNm.out];exact hct);show ¬((pre++ [x]).map (fun (x:Rd ls0)=>x.val)).Nodup;rw[List.map_append];exact this
   | false=>
    rw[hct] at hlk;clear z0 z1 z2 z3 z4 z5 z6 z7 y0 y1 y2 y3 y4 y5 y6 y7 u0 uf;obtain⟨w9,hst,hset9,hg9⟩:=(HSet.out.same (w':=w3.alloc (.cells #[] 99)) (Below.heap_alloc _ _ _ (by obtain⟨es,clock,hm⟩:=HSet.out.isMap;exact lt_of_heap hm))).store (by unfold nms;simp only[List.length_reverse,List.length_map];exact Nat.lt_of_le_of_lt (List.length_filter_le _ _) (by simp only[List.length_map];omega)) nm hnml hct;unfold strV at hst;have HSet9:=hideIt hset9;have HG9:=hideIt hg9;clear hset9 hg9
    gi_wp2
    have hal:Below w3.heap.size w3 (w3.alloc (.cells #[] 99)):=St.belA (Below.refl _ _) _;have k9:∀{b:Nat} {o:Obj},W.heap[b]?=some o→b≠w.heap.size+2→b≠w.heap.size+3→w9.heap[b]?=some o:=fun h h1 h2=>by
     have h3:=HK.out _ _ h h1;exact(HG9.out.block _ (by rw[World.size_alloc];have:=lt_of_heap h3;omega) (fun e=>h2 (by injection e))).trans ((hal.block _ (lt_of_heap h3)).trans h3)
    have hW3:Below w.heap.size W w3:=HF.out.below (base:=w.heap.size) hsz (fun y hy=>by simp at hy;omega);have hW9:Below w.heap.size W w9:=(hW3.alloc (by have:=hW3.size;omega) (.cells #[] 99)).grown HG9.out (by rw[World.size_alloc];have:=hW3.size;omega) (fun j e=>by injection e with e;omega);have hB9:Below w.heap.size w w9:=HP.out.2.2.2.2.2.trans hW9;refine⟨(HKp.out.trans ((KeepsOthers.alloc _ _).from _)).trans (KeepsFrom.of_grownBy HG9.out (fun j e=>by cases e;omega)),⟨?_,?_⟩,?_⟩
    ·exact hW9
    ·exact(k9 HP.out.2.2.2.2.1 (by omega) (by omega)).trans HP.out.2.2.2.2.1.symm
    ·show PJ w ((pre++ [x]).map (fun (x:Rd ls0)=>x.val)) w9;rw[List.map_append];show PJ w (pre.map (fun (x:Rd ls0)=>x.val)++ [x.val]) w9;refine⟨k9 HP.out.1 (by omega) (by omega),k9 HP.out.2.1 (by omega) (by omega),?_,?_,k9 HP.out.2.2.2.1 (by omega) (by omega),k9 HP.out.2.2.2.2.1 (by omega) (by omega),hB9⟩
     ·rw[effs_snoc];exact(HG9.out.block _ (by rw[World.size_alloc];have:=lt_of_heap HRow.out;omega) (fun e=>by injection e with e;omega)).trans ((hal.block _ (lt_of_heap HRow.out)).trans HRow.out)
     ·rw[nms_snoc _ HI.out,HNm.out];exact HSet9.out
  ·have h4:x.1=4:=by have:x.1≤4:=x.2;omega
   have hem:(lineAt ls0 x.1).isEmpty=true:=by rw[h4];decide
   have HPJ:Hid (PJ w ((pre++ [x]).map (fun (x:Rd ls0)=>x.val)) W):=by
    show PJ w _ W;rw[List.map_append];show PJ w (pre.map (fun (x:Rd ls0)=>x.val)++ [x.val]) W;refine⟨p0,p1,?_,?_,p4,p5,hB⟩
    ·rw[effs_snoc,h4];exact p2
    ·rw[nms_end _ hi];exact p3
   clear p0 p1 p2 p3 p4 p5 hB hTx hc5 hmW hB0 HX hi
   gi_wp2
   exact⟨KeepsFrom.refl _ _,⟨Below.refl _ _,rfl⟩,HPJ.out⟩
 case done=>
  rintro D ys W hD hS hJ hK;have hS':ys.map (fun (x:Rd ls0)=>x.val)= [0,1,2,3,4]:=hS;rw[show (ys.map (fun x=>x.val))= [0,1,2,3,4] from hS'] at hJ;obtain⟨p0,p1,p2,p3,p4,p5,hB⟩:=hJ;have HL:Hid (∀Z,Below W.heap.size W Z→(Instr.lookup 92 (.map (some (w.heap.size+3))) (.string ⟨#[110,111,100,101,115]⟩) true).run Tryz.prog Z=.ok (.tuple #[.agg #[],.bool true]) Z∧(Instr.lookup 92 (.map (some (w.heap.size+3))) (.string ⟨#[99,108,105,101,110,116,115]⟩) true).run Tryz.prog Z=.ok (.tuple #[.agg #[],.bool true]) Z∧(Instr.lookup 92 (.map (some (w.heap.size+3))) (.string ⟨#[113,117,111,114,117,109]⟩) true).run Tryz.prog Z=.ok (.tuple #[.agg #[],.bool true]) Z∧(Instr.lookup 92 (.map (some (w.heap.size+3))) (.string ⟨#[103,101,110]⟩) true).run Tryz.prog Z=.ok (.tuple #[.agg #[],.bool true]) Z):=fun Z hZ=>by
   obtain⟨es,clock,hm⟩:=p3.isMap;have p3':=p3.same (hZ.block _ (lt_of_heap hm));exact⟨p3'.look (nameI 0) (by decide),p3'.look (nameI 1) (by decide),p3'.look (nameI 2) (by decide),p3'.look (nameI 3) (by decide)⟩
  have H4:Hid (∀Z,Below W.heap.size W Z→Z.cell? ⟨w.heap.size+1+1+1+1,0,none⟩=some (.map (some (w.heap.size+3)))):=fun Z hZ=>by
   rw[cell_of_row _ _ _ _ 92 _ ((hZ.block _ (lt_of_heap p4)).trans p4)];rfl
  have l4:w.heap.size+1+1+1+1 < W.heap.size:=lt_of_heap p4;have HP:=hideIt (And.intro p0 (And.intro p1 (And.intro p2 hB)));have HK:=hideIt hK;clear p0 p1 p2 p3 p4 p5 hB hK hS hS' HX hc5 hmW hB0 HJ0
  gi_wp2
  gi_loopw [66] (fun v wr=>∃k:Nat,k≤4∧v=.int .i64 k∧Below W.heap.size W wr∧wr.heap[W.heap.size]?=some (.cells #[.string ⟨#[110,111,100,101,115]⟩,.string ⟨#[99,108,105,101,110,116,115]⟩,.string ⟨#[113,117,111,114,117,109]⟩,.string ⟨#[103,101,110]⟩] 9 (0,0))) (fun v _=>4 - (intOf v).toNat)
  case atStart=>exact⟨0,by omega,rfl,St.belA (Below.refl _ _) _,heap_alloc_new W _⟩
  case round=>
   obtain⟨k,hk,rfl,hb,hg⟩:=hrel;have HB:=hideIt (And.intro hb hg);obtain⟨m1,m2,m3,m4⟩:=HL.out _ hb;have e4:=H4.out _ hb;have hzr:=hb.size;have l5:w.heap.size+1+1+1+1 < wr.heap.size:=by omega
   have g0:wr.cell? ⟨W.heap.size,0,none⟩=some (.string ⟨#[110,111,100,101,115]⟩):=by rw[cell_of_row _ _ _ _ 9 _ hg];rfl
   have g1:wr.cell? ⟨W.heap.size,1,none⟩=some (.string ⟨#[99,108,105,101,110,116,115]⟩):=by rw[cell_of_row _ _ _ _ 9 _ hg];rfl
   have g2:wr.cell? ⟨W.heap.size,2,none⟩=some (.string ⟨#[113,117,111,114,117,109]⟩):=by rw[cell_of_row _ _ _ _ 9 _ hg];rfl
   have g3:wr.cell? ⟨W.heap.size,3,none⟩=some (.string ⟨#[103,101,110]⟩):=by rw[cell_of_row _ _ _ _ 9 _ hg];rfl
   clear hb hg;have hk5:k=0∨k=1∨k=2∨k=3∨k=4:=by omega
   clear hk;rcases hk5 with rfl | rfl | rfl | rfl | rfl
   ·gi_wp2
    exact⟨⟨1,by omega,rfl,HB.out.1.alloc HB.out.1.size _,(Below.heap_alloc _ _ _ (lt_of_heap HB.out.2)).trans HB.out.2⟩,by simp[intOf]⟩
   ·gi_wp2
    exact⟨⟨2,by omega,rfl,HB.out.1.alloc HB.out.1.size _,(Below.heap_alloc _ _ _ (lt_of_heap HB.out.2)).trans HB.out.2⟩,by simp[intOf]⟩
   ·gi_wp2
    exact⟨⟨3,by omega,rfl,HB.out.1.alloc HB.out.1.size _,(Below.heap_alloc _ _ _ (lt_of_heap HB.out.2)).trans HB.out.2⟩,by simp[intOf]⟩
   ·gi_wp2
    exact⟨⟨4,by omega,rfl,HB.out.1.alloc HB.out.1.size _,(Below.heap_alloc _ _ _ (lt_of_heap HB.out.2)).trans HB.out.2⟩,by simp[intOf]⟩
   ·have HA:Hid (∀Z,Below W.heap.size W Z→Z.cell? ⟨w.heap.size+1+1,0,none⟩=some (.int .i64 3)∧Z.cell? ⟨w.heap.size+1+1,1,none⟩=some (.int .i64 1)∧Z.cell? ⟨w.heap.size+1+1,2,none⟩=some (.int .i64 2)∧Z.cell? ⟨w.heap.size+1+1,3,none⟩=some (.int .i64 2)∧Z.cell? ⟨w.heap.size+1+1,4,none⟩=some (.bool true)∧Z.cell? ⟨w.heap.size+1+1,5,none⟩=some (.string ⟨#[]⟩)∧Z.cell? ⟨w.heap.size+1+1,6,none⟩=some (.string (Gn.ba gen0))∧Z.cell? ⟨w.heap.size+1+1,7,none⟩=some (.int .i64 10000)):=fun Z hZ=>by
     have e:=(hZ.block _ (lt_of_heap HP.out.2.2.1)).trans HP.out.2.2.1;exact⟨by rw[cell_of_row _ _ _ _ 25 _ e];rfl,by rw[cell_of_row _ _ _ _ 25 _ e];rfl,by rw[cell_of_row _ _ _ _ 25 _ e];rfl,by rw[cell_of_row _ _ _ _ 25 _ e];rfl,by rw[cell_of_row _ _ _ _ 25 _ e];rfl,by rw[cell_of_row _ _ _ _ 25 _ e];rfl,by rw[cell_of_row _ _ _ _ 25 _ e];rfl,by rw[cell_of_row _ _ _ _ 25 _ e];rfl⟩
    have HZ:Hid (∀Z,Below W.heap.size W Z→Z.cell? ⟨w.heap.size,0,none⟩=some (.int .i64 0)∧Z.cell? ⟨w.heap.size,1,none⟩=some (.int .i64 0)∧Z.cell? ⟨w.heap.size,2,none⟩=some (.int .i64 0)∧Z.cell? ⟨w.heap.size,3,none⟩=some (.int .i64 0)∧Z.cell? ⟨w.heap.size,4,none⟩=some (.bool false)∧Z.cell? ⟨w.heap.size,5,none⟩=some (.string ⟨#[]⟩)∧Z.cell? ⟨w.heap.size,6,none⟩=some (.string ⟨#[]⟩)∧Z.cell? ⟨w.heap.size,7,none⟩=some (.int .i64 0)∧Z.cell? ⟨w.heap.size+1,0,none⟩=some .nilIface):=fun Z hZ=>by
     have e:=(hZ.block _ (lt_of_heap HP.out.1)).trans HP.out.1;have e':=(hZ.block _ (lt_of_heap HP.out.2.1)).trans HP.out.2.1;exact⟨by rw[cell_of_row _ _ _ _ 25 _ e];rfl,by rw[cell_of_row _ _ _ _ 25 _ e];rfl,by rw[cell_of_row _ _ _ _ 25 _ e];rfl,by rw[cell_of_row _ _ _ _ 25 _ e];rfl,by rw[cell_of_row _ _ _ _ 25 _ e];rfl,by rw[cell_of_row _ _ _ _ 25 _ e];rfl,by rw[cell_of_row _ _ _ _ 25 _ e];rfl,by rw[cell_of_row _ _ _ _ 25 _ e];rfl,by rw[cell_of_row _ _ _ _ 29 _ e'];rfl⟩
    have HFz:Hid (∀Z,Below W.heap.size W Z→(∀i,Z.frozen? ⟨w.heap.size,i,none⟩=false)∧Z.frozen? ⟨w.heap.size+1,0,none⟩=false):=fun Z hZ=>by
     have e:=(hZ.block _ (lt_of_heap HP.out.1)).trans HP.out.1;have e':=(hZ.block _ (lt_of_heap HP.out.2.1)).trans HP.out.2.1;exact⟨fun i=>frozen_of_row _ _ _ _ 25 e,frozen_of_row _ _ _ _ 29 e'⟩
    obtain⟨a0,a1,a2,a3,a4,a5,a6,a7⟩:=HA.out _ HB.out.1;have HC:Hid (Calls Tryz.prog 7 #[.agg #[.int .i64 3,.int .i64 1,.int .i64 2,.int .i64 2,.bool true]] wr fun e w'=>e=.returned .nilIface∧Below wr.heap.size wr w'):=St.check_any 3 1 2 2 true wr;clear g0 g1 g2 g3 m1 m2 m3 m4 e4
    gi_wp2
    refine⟨trivial,?_⟩;refine(callsIn_wide.2 HC.out).mono ?_;rintro ev w5 ⟨rfl,hb5⟩;have hb5':Below W.heap.size W w5:=HB.out.1.trans (hb5.mono HB.out.1.size);obtain⟨a0,a1,a2,a3,a4,a5,a6,a7⟩:=HA.out _ hb5';obtain⟨z0,z1,z2,z3,z4,z5,z6,z7,z8⟩:=HZ.out _ hb5';obtain⟨fz,fe⟩:=HFz.out _ hb5';have f0:=fz 0;have f1:=fz 1;have f2:=fz 2;have f3:=fz 3;have f4:=fz 4;have f5:=fz 5;have f6:=fz 6;have f7:=fz 7;have HB5:=hideIt hb5';have HP5:Hid (w5.heap[w.heap.size]?=some planZ∧w5.heap[w.heap.size+1]?=some (.cells #[.nilIface] 29 (0,0))):=⟨(hb5'.block _ (lt_of_heap HP.out.1)).trans HP.out.1,(hb5'.block _ (lt_of_heap HP.out.2.1)).trans HP.out.2.1⟩;clear fz hb5 hb5' HC HA HZ HFz
    gi_wp2
    have hKs:KeepsOthers w5 (((((((((w5.setCell ⟨w.heap.size,0,none⟩ (.int .i64 3)).setCell ⟨w.heap.size,1,none⟩ (.int .i64 1)).setCell ⟨w.heap.size,2,none⟩ (.int .i64 2)).setCell ⟨w.heap.size,3,none⟩ (.int .i64 2)).setCell ⟨w.heap.size,4,none⟩ (.bool true)).setCell ⟨w.heap.size,5,none⟩ (.string ⟨#[]⟩)).setCell ⟨w.heap.size,6,none⟩ (.string (Gn.ba gen0))).setCell ⟨w.heap.size,7,none⟩ (.int .i64 10000)).setCell ⟨w.heap.size+1,0,none⟩ .nilIface):=(((((((((KeepsOthers.refl w5).trans (KeepsOthers.setCell _ _ _)).trans (KeepsOthers.setCell _ _ _)).trans (KeepsOthers.setCell _ _ _)).trans (KeepsOthers.setCell _ _ _)).trans (KeepsOthers.setCell _ _ _)).trans (KeepsOthers.setCell _ _ _)).trans (KeepsOthers.setCell _ _ _)).trans (KeepsOthers.setCell _ _ _)).trans (KeepsOthers.setCell _ _ _);have hK':=hKs.same D _ ((HB5.out.block D (lt_of_heap HK.out)).trans HK.out) rfl;have hrow:(((((((((w5.setCell ⟨w.heap.size,0,none⟩ (.int .i64 3)).setCell ⟨w.heap.size,1,none⟩ (.int .i64 1)).setCell ⟨w.heap.size,2,none⟩ (.int .i64 2)).setCell ⟨w.heap.size,3,none⟩ (.int .i64 2)).setCell ⟨w.heap.size,4,none⟩ (.bool true)).setCell ⟨w.heap.size,5,none⟩ (.string ⟨#[]⟩)).setCell ⟨w.heap.size,6,none⟩ (.string (Gn.ba gen0))).setCell ⟨w.heap.size,7,none⟩ (.int .i64 10000)).setCell ⟨w.heap.size+1,0,none⟩ .nilIface).heap[w.heap.size]?=some (.cells #[.int .i64 3,.int .i64 1,.int .i64 2,.int .i64 2,.bool true,.string ⟨#[]⟩,.string (Gn.ba gen0),.int .i64 10000] 25 (0,0)):=by
     have r1:=heap_setCell_same _ w.heap.size 0 _ 25 (.int .i64 3) HP5.out.1;have r2:=heap_setCell_same _ w.heap.size 1 _ 25 (.int .i64 1) r1;have r3:=heap_setCell_same _ w.heap.size 2 _ 25 (.int .i64 2) r2;have r4:=heap_setCell_same _ w.heap.size 3 _ 25 (.int .i64 2) r3;have r5:=heap_setCell_same _ w.heap.size 4 _ 25 (.bool true) r4;have r6:=heap_setCell_same _ w.heap.size 5 _ 25 (.string ⟨#[]⟩) r5;have r7:=heap_setCell_same _ w.heap.size 6 _ 25 (.string (Gn.ba gen0)) r6;have r8:=heap_setCell_same _ w.heap.size 7 _ 25 (.int .i64 10000) r7;exact(heap_setCell_other _ _ _ _ (by show w.heap.size≠w.heap.size+1;omega)).trans r8
    have hnil:(((((((((w5.setCell ⟨w.heap.size,0,none⟩ (.int .i64 3)).setCell ⟨w.heap.size,1,none⟩ (.int .i64 1)).setCell ⟨w.heap.size,2,none⟩ (.int .i64 2)).setCell ⟨w.heap.size,3,none⟩ (.int .i64 2)).setCell ⟨w.heap.size,4,none⟩ (.bool true)).setCell ⟨w.heap.size,5,none⟩ (.string ⟨#[]⟩)).setCell ⟨w.heap.size,6,none⟩ (.string (Gn.ba gen0))).setCell ⟨w.heap.size,7,none⟩ (.int .i64 10000)).setCell ⟨w.heap.size+1,0,none⟩ .nilIface).heap[w.heap.size+1]?=some (.cells #[.nilIface] 29 (0,0)):=by
     have q:((((((((w5.setCell ⟨w.heap.size,0,none⟩ (.int .i64 3)).setCell ⟨w.heap.size,1,none⟩ (.int .i64 1)).setCell ⟨w.heap.size,2,none⟩ (.int .i64 2)).setCell ⟨w.heap.size,3,none⟩ (.int .i64 2)).setCell ⟨w.heap.size,4,none⟩ (.bool true)).setCell ⟨w.heap.size,5,none⟩ (.string ⟨#[]⟩)).setCell ⟨w.heap.size,6,none⟩ (.string (Gn.ba gen0))).setCell ⟨w.heap.size,7,none⟩ (.int .i64 10000)).heap[w.heap.size+1]?=some (.cells #[.nilIface] 29 (0,0)):=by
      iterate 8 refine(heap_setCell_other _ _ _ _ (by show w.heap.size+1≠w.heap.size;omega)).trans ?_
      exact HP5.out.2
     exact heap_setCell_same _ (w.heap.size+1) 0 _ 29 .nilIface q
    have hbel:Below w.heap.size w (((((((((w5.setCell ⟨w.heap.size,0,none⟩ (.int .i64 3)).setCell ⟨w.heap.size,1,none⟩ (.int .i64 1)).setCell ⟨w.heap.size,2,none⟩ (.int .i64 2)).setCell ⟨w.heap.size,3,none⟩ (.int .i64 2)).setCell ⟨w.heap.size,4,none⟩ (.bool true)).setCell ⟨w.heap.size,5,none⟩ (.string ⟨#[]⟩)).setCell ⟨w.heap.size,6,none⟩ (.string (Gn.ba gen0))).setCell ⟨w.heap.size,7,none⟩ (.int .i64 10000)).setCell ⟨w.heap.size+1,0,none⟩ .nilIface):=(((((((((St.belJ HP.out.2.2.2 HB5.out).setCell (p:=⟨w.heap.size,0,none⟩) (Nat.le_refl _) _).setCell (p:=⟨w.heap.size,1,none⟩) (Nat.le_refl _) _).setCell (p:=⟨w.heap.size,2,none⟩) (Nat.le_refl _) _).setCell (p:=⟨w.heap.size,3,none⟩) (Nat.le_refl _) _).setCell (p:=⟨w.heap.size,4,none⟩) (Nat.le_refl _) _).setCell (p:=⟨w.heap.size,5,none⟩) (Nat.le_refl _) _).setCell (p:=⟨w.heap.size,6,none⟩) (Nat.le_refl _) _).setCell (p:=⟨w.heap.size,7,none⟩) (Nat.le_refl _) _).setCell (p:=⟨w.heap.size+1,0,none⟩) (Nat.le_succ _) _;generalize (((((((((w5.setCell ⟨w.heap.size,0,none⟩ (.int .i64 3)).setCell ⟨w.heap.size,1,none⟩ (.int .i64 1)).setCell ⟨w.heap.size,2,none⟩ (.int .i64 2)).setCell ⟨w.heap.size,3,none⟩ (.int .i64 2)).setCell ⟨w.heap.size,4,none⟩ (.bool true)).setCell ⟨w.heap.size,5,none⟩ (.string ⟨#[]⟩)).setCell ⟨w.heap.size,6,none⟩ (.string (Gn.ba gen0))).setCell ⟨w.heap.size,7,none⟩ (.int .i64 10000)).setCell ⟨w.heap.size+1,0,none⟩ .nilIface)=X at*
    have hne0:w.heap.size≠D:=by omega
    have hne1:w.heap.size+1≠D:=by omega
    refine⟨by simp,.inl ⟨_,_,rfl,run_takeDeferred hK',?_⟩⟩;have hr2:(X.putObj D (.deferred none)).heap[w.heap.size]?=some (.cells #[.int .i64 3,.int .i64 1,.int .i64 2,.int .i64 2,.bool true,.string ⟨#[]⟩,.string (Gn.ba gen0),.int .i64 10000] 25 (0,0)):=(World.putObj_heap_other hne0).trans hrow;have hn2:(X.putObj D (.deferred none)).heap[w.heap.size+1]?=some (.cells #[.nilIface] 29 (0,0)):=(World.putObj_heap_other hne1).trans hnil;have c0:(X.putObj D (.deferred none)).cell? ⟨w.heap.size,0,none⟩=some (.int .i64 3):=by rw[cell_of_row _ _ _ _ 25 _ hr2];rfl
    have c1:(X.putObj D (.deferred none)).cell? ⟨w.heap.size,1,none⟩=some (.int .i64 1):=by rw[cell_of_row _ _ _ _ 25 _ hr2];rfl
    have c2:(X.putObj D (.deferred none)).cell? ⟨w.heap.size,2,none⟩=some (.int .i64 2):=by rw[cell_of_row _ _ _ _ 25 _ hr2];rfl
    have c3:(X.putObj D (.deferred none)).cell? ⟨w.heap.size,3,none⟩=some (.int .i64 2):=by rw[cell_of_row _ _ _ _ 25 _ hr2];rfl
    have c4:(X.putObj D (.deferred none)).cell? ⟨w.heap.size,4,none⟩=some (.bool true):=by rw[cell_of_row _ _ _ _ 25 _ hr2];rfl
    have c5:(X.putObj D (.deferred none)).cell? ⟨w.heap.size,5,none⟩=some (.string ⟨#[]⟩):=by rw[cell_of_row _ _ _ _ 25 _ hr2];rfl
    have c6:(X.putObj D (.deferred none)).cell? ⟨w.heap.size,6,none⟩=some (.string (Gn.ba gen0)):=by rw[cell_of_row _ _ _ _ 25 _ hr2];rfl
    have c7:(X.putObj D (.deferred none)).cell? ⟨w.heap.size,7,none⟩=some (.int .i64 10000):=by rw[cell_of_row _ _ _ _ 25 _ hr2];rfl
    have c8:(X.putObj D (.deferred none)).cell? ⟨w.heap.size+1,0,none⟩=some .nilIface:=by rw[cell_of_row _ _ _ _ 29 _ hn2];rfl
    refine⟨_,?_,rfl,hbel.trans (belowK_b (w:=w) (Nat.le_refl _) _ D _ _ (by omega) hK' rfl rfl)⟩;clear HL H4 HP HK HB HP5 HB5 hrow hnil hbel hr2 hn2 hK' hKs a0 a1 a2 a3 a4 a5 a6 a7 z0 z1 z2 z3 z4 z5 z6 z7 z8 f0 f1 f2 f3 f4 f5 f6 f7 fe;simp[results,Tryz.results17,go_sem,c0,c1,c2,c3,c4,c5,c6,c7,c8]
 case stop=>
  rintro D c pre W hD ⟨t,ht⟩ h hK
  exfalso
  have h1:(pre.map (fun x=>x.1)) <+:List.range (ls0.length+1):=⟨t,ht⟩;exact h ((h1.sublist.nodup) List.nodup_range)
end Go.Proofs.YtjpklmighoondaaGreatDoor.Fa
