/-
  A plan's text, walked: what a line tells.
  The iterator over a text's lines: its contract at a text of whole lines.
  A plan's text, walked: the set of the names that were told.
  A plan's text, walked: Parse, at the text that the statements take.
-/
import Derived.Test.YtjpklmighoondaaGreatDoorMnZ
import Derived.Test.YtjpklmighoondaaGreatDoorFaTZ
import Derived.RangeFuncNested
import Derived.RangeFuncBound
import Derived.RangeFuncCalls
import Derived.RangeFuncLeaves
import Derived.Shelf.Abstract
import Derived.WalkKit
import Derived.OwnWalkIn
import Derived.TacticsInMore
import Derived.LoopNIn
import Derived.LoopIn
import Derived.Test.YtjpklmighoondaaGreatDoorFmtZ
import Derived.Maps.OwnSet
import Derived.Test.YtjpklmighoondaaGreatDoorSwMZ
import Derived.Test.YtjpklmighoondaaGreatDoorSortNoneZ
namespace Go.Proofs.YtjpklmighoondaaGreatDoor.Fa
open Go.RowKit Go.Shelf
structure TxW (w : World) (P : Nat) (m : Int) : Prop where
 ev:Gn.ErrV w
 pw:Gn.PowT w
 mx:w.cell? ⟨1,0,none⟩=some (.int .i64 m)
 g1:Gn.gRng≠P∧Gn.gSyn≠P∧Gn.gPow≠P
 one:1≠P
theorem TxW.fr {w w':World} {P:Nat} {m:Int} (h:TxW w P m) (hf:Gn.Fr [P] w w'):TxW w' P m:=
 ⟨h.ev.fr hf (by simp;exact h.g1.1) (by simp;exact h.g1.2.1),h.pw.fr hf (by simp;exact h.g1.2.2),(World.cell?_of_block (a:=⟨1,0,none⟩) (hf.block 1 (World.block_lt_of_cell? w _ h.mx) (by simp;exact h.one))).trans h.mx,h.g1,h.one⟩
set_option maxRecDepth 100000 in
set_option maxHeartbeats 4000000 in
theorem hear_nodes (t:Gn.Bt) (v:Int) (ht:t.length≤3000) (hc:Lib.countB (Gn.ba t) ⟨#[32]⟩=0) (hsp:Lib.splitB ⟨#[32]⟩ 0 0 (Gn.ba t)= [Gn.ba t]) (hw:Gn.numD t=some v∧t≠ []∧okBud v=true)
  (P:Nat) (cs:Array Value) (m:Int) (w:World) (hP:w.heap[P]?=some (.cells cs 25 (0,0))) (h8:cs.size=8) (hx:TxW w P m):
  Calls Tryz.prog 41 #[.pointer (some ⟨P,0,none⟩),.string ⟨#[110,111,100,101,115]⟩,.string (Gn.ba t)] w fun e w'=>e=.returned (.int .i64 0)∧Gn.Fr [P] w w'∧w'.heap[P]?=some (.cells (cs.setIfInBounds 0 (.int .i64 v)) 25 (0,0)):=by
 have hPl:=lt_of_heap hP;have hal:Gn.Fr [P] w (w.alloc (.cells #[.pointer (some ⟨P,0,none⟩)] 176)):=Gn.Fr.alloc _ _ _;have hx2:=hx.fr hal;have hN:=hearN t [t] 1 (fun _=>v) (fun _=>0) rfl (by decide) ht (by rw[hc]) (by rw[hc,hsp];rfl) (fun j h=>by
   have:j=0:=by simp at h;omega
   subst this;exact⟨hw.1,hw.2.1,hw.2.2,ht⟩) P w.heap.size 1 cs m (w.alloc (.cells #[.pointer (some ⟨P,0,none⟩)] 176)) ((Below.heap_alloc _ _ _ hPl).trans hP) (fun j hj=>by
   have:j=0:=by omega
   subst this;exact⟨by rw[cell_of_row _ _ _ _ 176 _ (heap_alloc_new w _)];rfl,by rw[h8];decide⟩) (by omega) hx2.ev hx2.pw hx2.mx hx2.g1
 have HN:=hideIt hN;have HAl:=hideIt hal;clear hN hal hx hx2 hP hw ht hc hsp;go_enter Tryz.func41,Tryz.ntmps41
 go_wp2_with fail
 refine HN.out.mono ?_;rintro e w1 ⟨rfl,hf,hh⟩;have HH:=hideIt hh;have HF:=hideIt (HAl.out.trans hf);clear hf hh HN;go_wp2;go_ret;exact⟨rfl,HF.out,HH.out⟩
set_option maxRecDepth 100000 in
set_option maxHeartbeats 4000000 in
theorem hear_clients (t:Gn.Bt) (v:Int) (ht:t.length≤3000) (hc:Lib.countB (Gn.ba t) ⟨#[32]⟩=0) (hsp:Lib.splitB ⟨#[32]⟩ 0 0 (Gn.ba t)= [Gn.ba t]) (hw:Gn.numD t=some v∧t≠ []∧okBud v=true)
  (P:Nat) (cs:Array Value) (m:Int) (w:World) (hP:w.heap[P]?=some (.cells cs 25 (0,0))) (h8:cs.size=8) (hx:TxW w P m):
  Calls Tryz.prog 41 #[.pointer (some ⟨P,0,none⟩),.string ⟨#[99,108,105,101,110,116,115]⟩,.string (Gn.ba t)] w fun e w'=>e=.returned (.int .i64 0)∧Gn.Fr [P] w w'∧w'.heap[P]?=some (.cells (cs.setIfInBounds 1 (.int .i64 v)) 25 (0,0)):=by
 have hPl:=lt_of_heap hP;have hal:Gn.Fr [P] w (w.alloc (.cells #[.pointer (some ⟨P,1,none⟩)] 176)):=Gn.Fr.alloc _ _ _;have hx2:=hx.fr hal;have hN:=hearN t [t] 1 (fun _=>v) (fun _=>1) rfl (by decide) ht (by rw[hc]) (by rw[hc,hsp];rfl) (fun j h=>by
   have:j=0:=by simp at h;omega
   subst this;exact⟨hw.1,hw.2.1,hw.2.2,ht⟩) P w.heap.size 1 cs m (w.alloc (.cells #[.pointer (some ⟨P,1,none⟩)] 176)) ((Below.heap_alloc _ _ _ hPl).trans hP) (fun j hj=>by
   have:j=0:=by omega
   subst this;exact⟨by rw[cell_of_row _ _ _ _ 176 _ (heap_alloc_new w _)];rfl,by rw[h8];decide⟩) (by omega) hx2.ev hx2.pw hx2.mx hx2.g1
 have HN:=hideIt hN;have HAl:=hideIt hal;clear hN hal hx hx2 hP hw ht hc hsp;go_enter Tryz.func41,Tryz.ntmps41
 go_wp2_with fail
 refine HN.out.mono ?_;rintro e w1 ⟨rfl,hf,hh⟩;have HH:=hideIt hh;have HF:=hideIt (HAl.out.trans hf);clear hf hh HN;go_wp2;go_ret;exact⟨rfl,HF.out,HH.out⟩
set_option maxRecDepth 100000 in
set_option maxHeartbeats 4000000 in
theorem hear_quorum (t t1 t2:Gn.Bt) (v1 v2:Int) (ht:t.length≤3000∧t1.length≤3000∧t2.length≤3000) (hc:Lib.countB (Gn.ba t) ⟨#[32]⟩=1) (hsp:Lib.splitB ⟨#[32]⟩ 0 1 (Gn.ba t)= [Gn.ba t1,Gn.ba t2]) (hw:(Gn.numD t1=some v1∧t1≠ []∧okBud v1=true)∧(Gn.numD t2=some v2∧t2≠ []∧okBud v2=true))
  (P:Nat) (cs:Array Value) (m:Int) (w:World) (hP:w.heap[P]?=some (.cells cs 25 (0,0))) (h8:cs.size=8) (hx:TxW w P m):
  Calls Tryz.prog 41 #[.pointer (some ⟨P,0,none⟩),.string ⟨#[113,117,111,114,117,109]⟩,.string (Gn.ba t)] w fun e w'=>e=.returned (.int .i64 0)∧Gn.Fr [P] w w'∧w'.heap[P]?=some (.cells ((cs.setIfInBounds 2 (.int .i64 v1)).setIfInBounds 3 (.int .i64 v2)) 25 (0,0)):=by
 have hPl:=lt_of_heap hP;have hal:Gn.Fr [P] w (w.drew.alloc (.cells #[.pointer (some ⟨P,2,none⟩),.pointer (some ⟨P,3,none⟩)] 176)):=(Gn.Fr.drewN [P] w 1).trans (Gn.Fr.alloc _ _ _);have hx2:=hx.fr hal;have hnew:(w.drew.alloc (.cells #[.pointer (some ⟨P,2,none⟩),.pointer (some ⟨P,3,none⟩)] 176)).heap[w.heap.size]?=some (.cells #[.pointer (some ⟨P,2,none⟩),.pointer (some ⟨P,3,none⟩)] 176 (0,0)):=heap_alloc_new w.drew _;have hN:=hearN t [t1,t2] 2 (fun j=>if j=0 then v1 else v2) (fun j=>if j=0 then 2 else 3) rfl (by decide) ht.1 (by rw[hc]) (by rw[hc,hsp];rfl) (fun j h=>by
   have:j=0∨j=1:=by simp at h;omega
   rcases this with rfl | rfl
   ·exact⟨hw.1.1,hw.1.2.1,hw.1.2.2,ht.2.1⟩
   ·exact⟨hw.2.1,hw.2.2.1,hw.2.2.2,ht.2.2⟩) P w.heap.size 2 cs m (w.drew.alloc (.cells #[.pointer (some ⟨P,2,none⟩),.pointer (some ⟨P,3,none⟩)] 176)) ((Below.heap_alloc _ _ _ hPl).trans hP) (fun j hj=>by
   have:j=0∨j=1:=by omega
   rcases this with rfl | rfl
   ·exact⟨by rw[cell_of_row _ _ _ _ 176 _ hnew];rfl,by rw[h8];decide⟩
   ·exact⟨by rw[cell_of_row _ _ _ _ 176 _ hnew];rfl,by rw[h8];decide⟩) (by omega) hx2.ev hx2.pw hx2.mx hx2.g1
 have HN:=hideIt hN;have HAl:=hideIt hal;clear hN hal hx hx2 hP hw ht hc hsp hnew;go_enter Tryz.func41,Tryz.ntmps41
 go_upto_region 18 with fail
 refine wp_region_held_drew (S:=fun _=>True) (by kernel_rfl) trivial (fun hHeld=>?_);refine tkH 0 ?_ rfl ?_ ?_;rotate_left 1
 ·intro wz hwz;go_simp;all_goals with_reducible rfl
 simp only[Act.put,p1,p2,p3,p4,p5];refine tkH 1 ?_ rfl ?_ ?_;rotate_left 1
 ·intro wz hwz;go_simp;all_goals with_reducible rfl
 simp only[Act.put,p1,p2,p3,p4,p5,p6];refine tkH 2 ?_ rfl ?_ ?_;rotate_left 1
 ·intro wz hwz;go_simp;all_goals with_reducible rfl
 simp only[Act.put,p1,p2,p3,p4,p5,p6];refine tkH 3 ?_ rfl ?_ ?_;rotate_left 1
 ·intro wz hwz;go_simp;all_goals with_reducible rfl
 simp only[Act.put,p1,p2,p3,p4,p5,p6];refine tkH 4 ?_ rfl ?_ ?_;rotate_left 1
 ·intro wz hwz;go_simp;all_goals with_reducible rfl
 simp only[Act.put,p1,p2,p3,p4,p5,p6];refine tkH 5 ?_ rfl ?_ ?_;rotate_left 1
 ·intro wz hwz;go_simp;all_goals with_reducible rfl
 simp only[Act.put,p1,p2,p3,p4,p5,p6];refine tkH 6 ?_ rfl ?_ ?_;rotate_left 1
 ·intro wz hwz;go_simp;all_goals with_reducible rfl
 simp only[Act.put,p1,p2,p3,p4,p5,p6];refine tkH 7 ?_ rfl ?_ ?_;rotate_left 1
 ·intro wz hwz;go_simp;all_goals with_reducible rfl
 simp only[Act.put,p1,p2,p3,p4,p5,p6];refine tkH 8 ?_ rfl ?_ ?_;rotate_left 1
 ·intro wz hwz;go_simp;all_goals with_reducible rfl
 simp only[Act.put,p1,p2,p3,p4,p5,p6];refine wpAnyH_ready (rs:= [9]) (by kernel_rfl) (by simp) (AllReadyH.cons rfl (fun K9 hK=>?_) AllReadyH.nil);go_simp;refine hK.out _ _ trivial (fun hHeld=>?_);clear hK K9;refine wpAnyH_ready (rs:= [10]) (by kernel_rfl) (by simp) (AllReadyH.cons rfl (fun K9 hK=>?_) AllReadyH.nil);go_simp;refine HN.out.mono ?_;rintro e w1 ⟨rfl,hf,hh⟩;have HH:=hideIt hh;have HF:=hideIt (HAl.out.trans hf);clear hf hh HN;refine hK.out _ _ trivial (fun hHeld=>?_);clear hK K9;refine tkH 11 ?_ rfl ?_ ?_;rotate_left 1
 ·intro wz hwz;go_simp;all_goals with_reducible rfl
 simp only[Act.put,p1,p2,p3,p4,p5,p6];refine wpAnyH_done (by kernel_rfl) ?_ _;go_wp2;go_ret;exact⟨rfl,HF.out,HH.out⟩
set_option maxRecDepth 100000 in
theorem tell_nil (w:World):Calls Tryz.prog 90 #[.nilIface] w fun e w'=>e=.returned (.int .i64 0)∧Below w.heap.size w w':=by
 go_enter Tryz.func90,Tryz.ntmps90
 go_wp2;go_ret;exact⟨rfl,Below.refl _ _⟩
set_option maxRecDepth 100000 in
set_option maxHeartbeats 4000000 in
theorem hear_gen (t:Gn.Bt) (g:Gn.Gt) (hg:Gn.parseF t=some g) (P:Nat) (cs:Array Value) (m:Int) (w:World) (hP:w.heap[P]?=some (.cells cs 25 (0,0))) (h8:cs.size=8) (hx:TxW w P m):
  Calls Tryz.prog 41 #[.pointer (some ⟨P,0,none⟩),.string ⟨#[103,101,110]⟩,.string (Gn.ba t)] w fun e w'=>e=.returned (.int .i64 0)∧Gn.Fr [P] w w'∧w'.heap[P]?=some (.cells (cs.setIfInBounds 6 (.string (Gn.ba t))) 25 (0,0)):=by
 have hs:Gn.Fr [P] w (w.setCell ⟨P,6,none⟩ (.string (Gn.ba t))):=Gn.Fr.set _ _ _ (by simp);have hP2:=heap_setCell_same w P 6 cs 25 (.string (Gn.ba t)) hP;have HPs:=hideIt (Gn.parse_any t (w.setCell ⟨P,6,none⟩ (.string (Gn.ba t))) (hx.fr hs).ev);have HS:=hideIt hs;have HP2:=hideIt hP2;have HGn:=hideIt hg;obtain⟨u,hu⟩:∃u,w.cell? ⟨P,6,none⟩=some u:=⟨cs[6],by rw[cell_of_row _ _ _ _ 25 _ hP];exact Array.getElem?_eq_getElem (by omega)⟩;have hfz:w.frozen? ⟨P,6,none⟩=false:=frozen_of_row _ _ _ _ 25 hP;clear hs hP2 hP hx hg;go_enter Tryz.func41,Tryz.ntmps41
 go_wp2_with fail
 refine HPs.out.mono ?_;rintro e w1 hps;rcases hps with ⟨g2,v,bs,_,rfl,hg2,_,hfr⟩ | ⟨hno,_⟩
 ·obtain⟨Ty,x,F,hM⟩:=Gn.met_of hg2;have hsh:=hM.shape;subst hsh;have HF:=hideIt (HS.out.trans (hfr.more (by simp)));have HP3:=hideIt ((hfr.block P (lt_of_heap HP2.out) (by simp)).trans HP2.out);have HT:=hideIt (tell_nil w1);clear hM hg2 hfr HPs;go_wp2_with fail
  refine HT.out.mono ?_;rintro e w2 ⟨rfl,hb⟩;have HF2:=hideIt (HF.out.trans (Gn.fr_below hb [P]));have HP4:=hideIt ((hb.block P (lt_of_heap HP3.out)).trans HP3.out);clear hb HT;go_wp2;go_ret;exact⟨rfl,HF2.out,HP4.out⟩
 ·rw[HGn.out] at hno;cases hno
open Go.RowKit Go.Lib Go.Shelf
attribute [local go_sem] Oper.semAt_some
def textB (l:List (List UInt8)):List UInt8:=l.flatMap fun e=>e++ [10]
theorem index_line:∀(l r:List UInt8),(∀c∈l,c.toNat≠10)→Lib.index (l++10::r) [10]=l.length
 | [],r,_=>by simp[Lib.index,List.isPrefixOf]
 | c::l,r,h=>by
  have hc:(10==c)=false:=by
   have:=h c (by simp);rw[beq_eq_false_iff_ne];intro e;exact this (by rw[←e];rfl)
  rw[List.cons_append,Lib.index,index_line l r (fun x hx=>h x (by simp[hx]))];simp[List.isPrefixOf,hc]
theorem cut_line (l r:List UInt8) (h:∀c∈l,c.toNat≠10):Lib.cut (l++10::r) [10]=(l,r,true):=by
 unfold Lib.cut;rw[index_line l r h,if_pos (by omega)];simp
theorem cut_none:Lib.cut [] [10]=([],[],false):=rfl
theorem textB_succ (l:List (List UInt8)) (k:Nat) (h:k < l.length):textB (l.take (k+1))=textB (l.take k)++(l[k]++ [10]):=by
 unfold textB;rw[List.take_succ_eq_append_getElem h,List.flatMap_append];simp
def placeAt (l:List (List UInt8)) (k:Nat):Nat:=(textB (l.take k)).length
def lineAt (l:List (List UInt8)) (k:Nat):List UInt8:=match l[k]? with | some e=>e | none=> []
theorem textB_split (l:List (List UInt8)) (k:Nat):textB l=textB (l.take k)++textB (l.drop k):=by
 unfold textB;rw[←List.flatMap_append,List.take_append_drop]
theorem drop_place (l:List (List UInt8)) (k:Nat):(textB l).drop (placeAt l k)=textB (l.drop k):=by
 unfold placeAt
 conv=>lhs;rw[textB_split l k]
 simp
theorem textB_drop (l:List (List UInt8)) (k:Nat) (h:k < l.length):textB (l.drop k)=l[k]++10::textB (l.drop (k+1)):=by
 rw[List.drop_eq_getElem_cons h];simp only[textB,List.flatMap_cons,List.append_assoc,List.singleton_append]
theorem cut_at (l:List (List UInt8)) (k:Nat) (hl:∀e∈l,∀c∈e,c.toNat≠10) (h:k < l.length):Lib.cut (textB (l.drop k)) [10]=(lineAt l k,textB (l.drop (k+1)),true):=by
 rw[textB_drop l k h,cut_line _ _ (hl _ (List.getElem_mem h)),lineAt,List.getElem?_eq_getElem h]
theorem place_succ (l:List (List UInt8)) (k:Nat):(textB l).length - (textB (l.drop (k+1))).length=placeAt l (k+1):=by
 unfold placeAt
 conv=>lhs;rw[textB_split l (k+1)]
 simp
theorem textB_len_drop (l:List (List UInt8)) (k:Nat):(textB (l.drop k)).length≤(textB l).length:=by
 conv=>rhs;rw[textB_split l k]
 simp
theorem place_le (l:List (List UInt8)) (k:Nat):placeAt l k≤(textB l).length:=by
 unfold placeAt
 conv=>rhs;rw[textB_split l k]
 simp
theorem cut_end (l:List (List UInt8)) (k:Nat) (h:¬k < l.length):Lib.cut (textB (l.drop k)) [10]=(lineAt l k,textB (l.drop (k+1)),false):=by
 rw[List.drop_eq_nil_of_le (by omega),List.drop_eq_nil_of_le (by omega),lineAt,List.getElem?_eq_none (by omega)];exact cut_none
theorem extract_place (l:List (List UInt8)) (k:Nat):(({data:=(textB l).toArray} :ByteArray).extract (placeAt l k) (textB l).length).data.toList=textB (l.drop k):=by
 rw[←drop_place l k];have:List.take ((textB l).length - placeAt l k) (List.drop (placeAt l k) (textB l))=List.drop (placeAt l k) (textB l):=List.take_of_length_le (by simp)
 simpa [ByteArray.data_extract] using this
theorem range_pre (k n:Nat) (h:k≤n):List.range k <+:List.range n:=by
 have:List.range k=(List.range n).take k:=by rw[List.take_range,Nat.min_eq_left h]
 rw[this];exact List.take_prefix _ _
theorem cut_call (l:List (List UInt8)) (k:Nat) (hl:∀e∈l,∀c∈e,c.toNat≠10) (h120:(textB l).length≤100000) (m:Int) (w:World) (hm:w.cell? ⟨1,0,none⟩=some (.int .i64 m)):
  Calls Tryz.prog 40 #[.string (({data:=(textB l).toArray} :ByteArray).extract (placeAt l k) (textB l).length),.string ⟨#[10]⟩] w fun e w'=>e=.returned (.tuple #[.string ⟨(lineAt l k).toArray⟩,.string ⟨(textB (l.drop (k+1))).toArray⟩,.bool (decide (k < l.length))])∧∃n,w'=w.drewN n:=by
 have h1:=Any.strings_Cut Gn.nu_lays145 (({data:=(textB l).toArray} :ByteArray).extract (placeAt l k) (textB l).length) ⟨#[10]⟩ m w (by
  have h3:(({data:=(textB l).toArray} :ByteArray).extract (placeAt l k) (textB l).length).size≤(textB l).length:=by
   simp[ByteArray.size,ByteArray.data_extract]
  omega) hm
 rw[extract_place] at h1;by_cases h:k < l.length
 ·rw[show (⟨#[10]⟩:ByteArray).data.toList= [10] from rfl,cut_at l k hl h] at h1;rw[decide_eq_true h];exact h1
 ·rw[show (⟨#[10]⟩:ByteArray).data.toList= [10] from rfl,cut_end l k h] at h1;rw[decide_eq_false h];exact h1
abbrev Rd (l:List (List UInt8)):= {k:Nat // k≤l.length}
def encL (l:List (List UInt8)) (k:Rd l):Array Value:=#[.int .i64 (placeAt l k.1),.string ⟨(lineAt l k.1).toArray⟩]
theorem wrap_small {n:Int} (h0: -1000000≤n) (h1:n≤1000000):IntKind.i64.wrap n=n:=by
 rw[IntKind.wrap_i64];omega
theorem pre_snoc {l:List (List UInt8)} {pre:List (Rd l)} {k:Nat} (hk:k≤l.length) (h:pre.map (·.1)=List.range k):(pre++ [(⟨k,hk⟩:Rd l)]).map (fun x=>x.1)=List.range (k+1):=by
 rw[List.map_append,h,List.range_succ];rfl
theorem place_lt (l:List (List UInt8)) (k:Nat) (h:k < l.length):placeAt l k < placeAt l (k+1):=by
 unfold placeAt;rw[textB_succ l k h,List.length_append,List.length_append];simp
def KeptL (n₀ Bt:Nat) (W W':World):Prop:=Below n₀ W W'∧W'.heap[Bt]?=W.heap[Bt]?
set_option maxRecDepth 100000 in
set_option maxHeartbeats 4000000 in
theorem lines1_in (l:List (List UInt8)) (hl:∀e∈l,∀c∈e,c.toNat≠10) (h120:(textB l).length≤100000) (n:Nat) (hn:1≤n) (y Bt n₀:Nat) (m:Int) (J Jx:List (Rd l)→World→Prop) (W:World) (hb2:1 < n₀)
  (hY:∀pre x W1,J pre W1→pre.length < l.length+1→YieldAt Fence.wide (n - 1) Tryz.prog y (encL l x) W1 fun e W'=>
   (e=.returned (.bool true)∧J (pre++ [x]) W'∧KeptL n₀ Bt W1 W')∨(e=.returned (.bool false)∧Jx (pre++ [x]) W'))
  (hJ:AbidesFrom W.heap.size J) (hc:W.cell? ⟨Bt,0,none⟩=some (.string ⟨(textB l).toArray⟩)) (hm:W.cell? ⟨1,0,none⟩=some (.int .i64 m)) (h0:J [] W):
  CallsIn Fence.wide n Tryz.prog 88 #[.func (.yield y) #[] #[],.pointer (some ⟨Bt,0,none⟩)] W fun e W'=>(∃v,e=.returned v)∧
   ((∃xs,xs.map (·.1)=List.range (l.length+1)∧J xs W')∨(∃pre,pre.map (·.1) <+:List.range (l.length+1)∧Jx pre W')):=by
 have HL:=hideIt hl;have HY:=hideIt hY;have HJ:=hideIt hJ;clear hl hY hJ;refine callsIn_of_wp Tryz.func88 rfl trivial ?_ rfl;simp only[Tryz.ntmps88,List.size_toArray,List.length_cons,List.length_nil,Nat.reduceAdd,Nat.reduceSub,Array.replicate_succ,Array.replicate_zero,List.push_toArray,List.append_toArray,List.nil_append,List.cons_append]
 gi_wp2
 gi_loopw [3] (fun p wr=>∃(k:Nat) (pre:List (Rd l)),k≤l.length∧p=.int .i64 (placeAt l k)∧pre.map (·.1)=List.range k∧wr.cell? ⟨Bt,0,none⟩=some (.string ⟨(textB l).toArray⟩)∧wr.cell? ⟨1,0,none⟩=some (.int .i64 m)∧J pre wr∧W.heap.size≤wr.heap.size)
  (fun p _=>(textB l).length+1 - (intOf p).toNat)
 case atStart=>exact⟨0,[],Nat.zero_le _,rfl,rfl,hc,hm,h0,Nat.le_refl _⟩
 case round=>
  obtain⟨k,pre,hk,rfl,hpre,hct,hmt,hJs,hsz⟩:=hrel;have HPR:=hideIt hpre;have HJS:=hideIt hJs;have hplen:pre.length=k:=by have:=congrArg List.length hpre;simpa using this
  clear hJs hpre;have hp1:(placeAt l k:Int)≤((textB l).length:Int):=by have:=place_le l k;omega
  gi_wp2
  refine⟨trivial,?_⟩;refine(callsIn_wide.2 (cut_call l k HL.out h120 m wr hmt)).mono ?_;rintro e w2 ⟨rfl,q,rfl⟩;have HJ2:=hideIt (HJ.out pre wr (wr.drewN q) none HJS.out ⟨rfl,rfl,rfl,Nat.le_refl _,fun _ _ _=>rfl⟩ (fun r e=>by cases e));obtain⟨fn,tmps,assign,body,hy,hR⟩:=HY.out pre ⟨k,hk⟩ (wr.drewN q) HJ2.out (by omega);dsimp only[encL] at hy;have HR:=hideIt hR;clear hR;by_cases hlt:k < l.length
  ·simp only[decide_eq_true hlt]
   gi_wp2
   refine HR.out.mono ?_;rintro e W3 (⟨rfl,hJ3,hk3⟩ | ⟨rfl,hJx3⟩)
   ·have hct3:W3.cell? ⟨Bt,0,none⟩=some (.string ⟨(textB l).toArray⟩):=(World.cell?_of_block (a:=⟨Bt,0,none⟩) hk3.2).trans hct;have hmt3:W3.cell? ⟨1,0,none⟩=some (.int .i64 m):=(hk3.1.cell (p:=⟨1,0,none⟩) hb2).trans hmt;have HJ3:=hideIt hJ3;have hsz3:W.heap.size≤W3.heap.size:=Nat.le_trans hsz hk3.1.size;have hps:=place_succ l k;have hpl:=textB_len_drop l (k+1);have htl:=h120;have hpw:IntKind.i64.wrap (((textB l).length:Int) - ((textB (l.drop (k+1))).length:Int))=(placeAt l (k+1):Int):=by
     rw[←hps];have:((((textB l).length - (textB (l.drop (k+1))).length:Nat)):Int)=((textB l).length:Int) - ((textB (l.drop (k+1))).length:Int):=by omega
     rw[this];exact wrap_small (by omega) (by omega)
    clear hJ3 hk3
    gi_wp2
    have hlt2:=place_lt l k hlt;have hle2:=place_le l (k+1);exact⟨⟨k+1,pre++ [⟨k,hk⟩],by omega,rfl,pre_snoc hk HPR.out,hct3,hmt3,HJ3.out,hsz3⟩,by simp[intOf];omega⟩
   ·gi_wp2
    refine bodyPost_ret (results_none rfl _ _ _) rfl ?_;exact⟨⟨_,rfl⟩,.inr ⟨pre++ [⟨k,hk⟩],by rw[pre_snoc hk HPR.out];exact range_pre _ _ (by omega),hJx3⟩⟩
  ·simp only[decide_eq_false hlt]
   gi_wp2
   refine HR.out.mono ?_;rintro e W3 (⟨rfl,hJ3,hk3⟩ | ⟨rfl,hJx3⟩)
   ·gi_wp2
    refine bodyPost_ret (results_none rfl _ _ _) rfl ?_;exact⟨⟨_,rfl⟩,.inl ⟨pre++ [⟨k,hk⟩],(pre_snoc hk HPR.out).trans (congrArg List.range (by omega)),hJ3⟩⟩
   ·gi_wp2
    refine bodyPost_ret (results_none rfl _ _ _) rfl ?_;exact⟨⟨_,rfl⟩,.inr ⟨pre++ [⟨k,hk⟩],by rw[pre_snoc hk HPR.out];exact range_pre _ _ (by omega),hJx3⟩⟩
theorem lines_stops (l:List (List UInt8)) (hl:∀e∈l,∀c∈e,c.toNat≠10) (h120:(textB l).length≤100000) (n:Nat) (hn:1≤n) (Bt n₀:Nat) (m:Int) (w:World) (hb2:1 < n₀) (_hn₀:n₀≤w.heap.size)
  (hc:w.cell? ⟨Bt,0,none⟩=some (.string ⟨(textB l).toArray⟩)) (hBw:Bt < w.heap.size) (hm:w.cell? ⟨1,0,none⟩=some (.int .i64 m)):
  SeqStopsK Fence.wide n Tryz.prog 88 #[.pointer (some ⟨Bt,0,none⟩)] (encL l) (KeptL n₀ Bt) (fun xs=>xs.map (fun x=>x.1)=List.range (l.length+1)) (fun pre=>pre.map (fun x=>x.1) <+:List.range (l.length+1)) (l.length+1) w:=
 fun y J Jx W hW hJ _ hY h0=>lines1_in l hl h120 n hn y Bt n₀ m J Jx W hb2 hY hJ ((hW.cell (p:=⟨Bt,0,none⟩) hBw).trans hc) ((hW.cell (p:=⟨1,0,none⟩) (by show 1 < w.heap.size;omega)).trans hm) h0
theorem keptL_t {n₀ Bt:Nat} {A B C:World} (h:KeptL n₀ Bt A B) (k:KeptL n₀ Bt B C):KeptL n₀ Bt A C:=⟨h.1.trans k.1,k.2.trans h.2⟩
theorem keptL_b {n₀ Bt:Nat} {w:World} (hn:n₀≤w.heap.size) (hB:Bt < w.heap.size) (W:World) (l:Nat) (o o':Obj) (hl:w.heap.size≤l) (h:W.heap[l]?=some o) (h1:o.isCells=false) (h2:o.isWalk=false):KeptL n₀ Bt W (W.putObj l o'):=
 ⟨belowK_b hn W l o o' hl h h1 h2,World.putObj_heap_other (by omega)⟩
theorem lines_call (s:ByteArray) (w:World):Calls Tryz.prog 39 #[.string s] w fun e w'=>e=.returned (.func (.func 88) #[] #[.pointer (some ⟨w.heap.size,0,none⟩)])∧w'=w.alloc (.cells #[.string s] 9):=by
 go_enter Tryz.func39,Tryz.ntmps39
 go_wp2;go_ret;exact⟨rfl,rfl⟩
open Go.RowKit
open Go.Maps (Keyed IsMap)
theorem zeroU (w:World):(zeroValue 99).run Tryz.prog w=.ok (.agg #[]) w:=by kernel_rfl
def SetU (w:World) (M:Nat) (ent:List (List UInt8)):Prop:=
 ∃D:DataW Unit,w.ownsMap Tryz.prog 9 unitElem M ent.length D∧(∀l,Maps.has D (.string l)=ent.contains l)∧Maps.size D=ent.length
theorem SetU.same {w w':World} {M:Nat} {ent:List (List UInt8)} (h:SetU w M ent) (hs:w'.heap[M]?=w.heap[M]?):SetU w' M ent:=by
 obtain⟨D,⟨es,clock,hb,h1⟩,h2⟩:=h;exact⟨D,⟨es,clock,hs.trans hb,h1⟩,h2⟩
theorem SetU.isMap {w:World} {M:Nat} {ent:List (List UInt8)} (h:SetU w M ent):∃es clock,w.heap[M]?=some (.map es clock):=by
 obtain⟨D,⟨es,clock,hb,_⟩,_⟩:=h;exact⟨es,clock,hb⟩
theorem setU_made (w:World):SetU (w.alloc (.map #[] 0)) w.heap.size []:=
 ⟨_,World.ownsMap_made w Tryz.prog 9 _,fun _=>rfl,rfl⟩
theorem SetU.look {w:World} {M:Nat} {ent:List (List UInt8)} (h:SetU w M ent) (l:List UInt8) (hl:l.length≤100000):
  (Instr.lookup 92 (.map (some M)) (strV l) true).run Tryz.prog w=.ok (.tuple #[.agg #[],.bool (ent.contains l)]) w:=by
 obtain⟨D,h1,h2,_⟩:=h;obtain⟨v,ps,hrun,hv⟩:=h1.look_ok keyedS Tryz.underlying92 (zeroU w) unitElem_mk (keyS l hl);obtain⟨rfl,_⟩:=unitElem_inv hv;rw[h2] at hrun;exact hrun
theorem SetU.store {w:World} {M:Nat} {ent:List (List UInt8)} (h:SetU w M ent) (hn:ent.length < 2000000) (l:List UInt8) (hl:l.length≤100000) (hnew:ent.contains l=false):
  ∃w',(Instr.mapUpdate 92 (.map (some M)) (strV l) (.agg #[])).run Tryz.prog w=.ok () w'∧SetU w' M (l::ent)∧w.grownBy w' (some M):=by
 obtain⟨D,h1,h2,h3⟩:=h;obtain⟨w',hrun,ho,ht⟩:=h1.store keyedS Tryz.underlying92 (by unfold maxLen;omega) (keyS l hl) unitElem_mk;refine⟨w',hrun,⟨_,ho,fun m=>?_,?_⟩,ht.grown⟩
 ·by_cases e:m=l
  ·subst e;rw[Maps.has_put_same h1.isMap (isKeyS m)];simp
  ·have hne:(Lit.string m)≠.string l:=fun k=>e (by simpa using k)
   rw[Maps.has_put_other hne,h2 m,List.contains_cons];simp[e]
 ·rw[Maps.size_put (h1.tidy keyedS),h2 l,hnew,h3];rfl
open Go.RowKit Go.Lib Go.Shelf
attribute [local go_sem] Oper.semAt_some
def ls0:List (List UInt8):= [[110,111,100,101,115,32,51],[99,108,105,101,110,116,115,32,49],[113,117,111,114,117,109,32,50,32,50],[103,101,110,32,108,105,109,105,116,32,49,32,119,114,105,116,101,32,48,32,53,32,53]]
theorem ls0_lines:∀e∈ls0,∀c∈e,c.toNat≠10:=by decide
theorem ls0_len:(textB ls0).length≤100000:=by decide
def nameI:Nat→List UInt8
 | 0=> [110,111,100,101,115]
 | 1=> [99,108,105,101,110,116,115]
 | 2=> [113,117,111,114,117,109]
 | _=> [103,101,110]
def gen0:List UInt8:= [108,105,109,105,116,32,49,32,119,114,105,116,101,32,48,32,53,32,53]
def restI:Nat→List UInt8
 | 0=> [51]
 | 1=> [49]
 | 2=> [50,32,50]
 | _=>gen0
def eff (cs:Array Value):Nat→Array Value
 | 0=>cs.setIfInBounds 0 (.int .i64 3)
 | 1=>cs.setIfInBounds 1 (.int .i64 1)
 | 2=>(cs.setIfInBounds 2 (.int .i64 2)).setIfInBounds 3 (.int .i64 2)
 | 3=>cs.setIfInBounds 6 (.string (Gn.ba gen0))
 | _=>cs
def effs (cs:Array Value) (l:List Nat):Array Value:=l.foldl eff cs
theorem eff_size (cs:Array Value):∀i,(eff cs i).size=cs.size
 | 0=>by simp[eff]
 | 1=>by simp[eff]
 | 2=>by simp[eff]
 | 3=>by simp[eff]
 | _+4=>rfl
theorem effs_size (l:List Nat):∀cs:Array Value,(effs cs l).size=cs.size:=by
 induction l with
 | nil=>intro cs;rfl
 | cons i l ih=>intro cs;exact(ih (eff cs i)).trans (eff_size cs i)
theorem effs_snoc (cs:Array Value) (l:List Nat) (i:Nat):effs cs (l++ [i])=eff (effs cs l) i:=by unfold effs;rw[List.foldl_append];rfl
def nms (l:List Nat):List (List UInt8):=((l.filter (· < 4)).map nameI).reverse
theorem nms_snoc (l:List Nat) {i:Nat} (h:i < 4):nms (l++ [i])=nameI i::nms l:=by unfold nms;simp[List.filter_append,h]
theorem nms_end (l:List Nat) {i:Nat} (h:¬i < 4):nms (l++ [i])=nms l:=by unfold nms;simp[List.filter_append,h]
theorem name_inj (i j:Nat) (hi:i < 4) (hj:j < 4) (h:nameI i=nameI j):i=j:=by
 have h1:i=0∨i=1∨i=2∨i=3:=by omega
 have h2:j=0∨j=1∨j=2∨j=3:=by omega
 rcases h1 with rfl | rfl | rfl | rfl<;>rcases h2 with rfl | rfl | rfl | rfl<;>first | rfl | (exact absurd h (by decide))
theorem nms_mem {l:List Nat} {i:Nat} (h:i < 4) (hc:(nms l).contains (nameI i)=true):¬(l++ [i]).Nodup:=by
 intro hd;unfold nms at hc;rw[List.contains_iff_mem,List.mem_reverse,List.mem_map] at hc;obtain⟨j,hj,e⟩:=hc;rw[List.mem_filter] at hj;have hj4:j < 4:=by simpa using hj.2
 have:=name_inj j i hj4 h e;subst this;rw[List.nodup_append] at hd;exact hd.2.2 j hj.1 j (by simp) rfl
theorem cut_i (i:Nat) (h:i < 4):Lib.cut (lineAt ls0 i) [32]=(nameI i,restI i,true):=by
 have:i=0∨i=1∨i=2∨i=3:=by omega
 rcases this with rfl | rfl | rfl | rfl<;>decide
theorem gen0_reads:Gn.parseF gen0=some g1:=by rfl
theorem hear_i (i:Nat) (hi:i < 4) (P:Nat) (cs:Array Value) (m:Int) (w:World) (hP:w.heap[P]?=some (.cells cs 25 (0,0))) (h8:cs.size=8) (hx:TxW w P m):
  Calls Tryz.prog 41 #[.pointer (some ⟨P,0,none⟩),.string ⟨(nameI i).toArray⟩,.string ⟨(restI i).toArray⟩] w fun e w'=>e=.returned (.int .i64 0)∧Gn.Fr [P] w w'∧w'.heap[P]?=some (.cells (eff cs i) 25 (0,0)):=by
 have:i=0∨i=1∨i=2∨i=3:=by omega
 rcases this with rfl | rfl | rfl | rfl
 ·exact hear_nodes [51] 3 (by decide) (by decide+kernel) (by decide+kernel) (by decide+kernel) P cs m w hP h8 hx
 ·exact hear_clients [49] 1 (by decide) (by decide+kernel) (by decide+kernel) (by decide+kernel) P cs m w hP h8 hx
 ·exact hear_quorum [50,32,50] [50] [50] 2 2 (by decide) (by decide+kernel) (by decide+kernel) (by decide+kernel) P cs m w hP h8 hx
 ·exact hear_gen gen0 g1 gen0_reads P cs m w hP h8 hx
end Go.Proofs.YtjpklmighoondaaGreatDoor.Fa
