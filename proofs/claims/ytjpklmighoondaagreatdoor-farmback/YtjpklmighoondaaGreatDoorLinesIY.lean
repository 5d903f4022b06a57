/-
  The iterator over a text's lines: its contract at a text that Text has written.
  What Parse makes of a text that Text has written.
  What is unescaped, walked: slices.Backward and farm.unescaped.
  A page's parts, in plain Lean: no byte of them opens a mark.
  A page's parts, read: farm.readParts, walked.
  A page, read: farm.Read, walked.
  The statements' own pick, sameInts and begins: walked.
-/
import Derived.Test.YtjpklmighoondaaGreatDoorPgMY
import Derived.RangeFuncNested
import Derived.RangeFuncBound
import Derived.RangeFuncCalls
import Derived.RangeFuncLeaves
import Derived.Shelf.Abstract
import Derived.WalkKit
import Derived.OwnWalkIn
import Derived.TacticsInMore
import Derived.LoopNIn
import Derived.LoopIn
import Derived.Maps.AppendAt
import Derived.Test.YtjpklmighoondaaGreatDoorFaUY
import Derived.Deep.QuietTactic
import Derived.BigQuiet
set_option maxRecDepth 100000
namespace Go.Proofs.YtjpklmighoondaaGreatDoor
open Go.RowKit Go.Lib Go.Shelf
attribute [local go_sem] Oper.semAt_some
def placeAt (l:List Ev) (k:Nat):Nat:=(textB (l.take k)).length
def lineAt (l:List Ev) (k:Nat):List UInt8:=match l[k]? with | some e=>lineB e | none=> []
theorem textB_split (l:List Ev) (k:Nat):textB l=textB (l.take k)++textB (l.drop k):=by
 unfold textB;rw[←List.flatMap_append,List.take_append_drop]
theorem drop_place (l:List Ev) (k:Nat):(textB l).drop (placeAt l k)=textB (l.drop k):=by
 unfold placeAt
 conv=>lhs;rw[textB_split l k]
 simp
theorem textB_drop (l:List Ev) (k:Nat) (h:k < l.length):textB (l.drop k)=lineB l[k]++10::textB (l.drop (k+1)):=by
 rw[List.drop_eq_getElem_cons h];simp only[textB,List.flatMap_cons,List.append_assoc,List.singleton_append]
theorem cutW_at (l:List Ev) (k:Nat) (hl:∀e∈l,e.fault=0) (h:k < l.length):Lib.cut (textB (l.drop k)) [10]=(lineAt l k,textB (l.drop (k+1)),true):=by
 rw[textB_drop l k h,cut_line _ _ (fun c hc=>(line_bytes (small_of_fault (hl _ (List.getElem_mem h))).1 c hc).1),lineAt,List.getElem?_eq_getElem h]
theorem place_succ (l:List Ev) (k:Nat):(textB l).length - (textB (l.drop (k+1))).length=placeAt l (k+1):=by
 unfold placeAt
 conv=>lhs;rw[textB_split l (k+1)]
 simp
theorem textB_len_drop (l:List Ev) (k:Nat):(textB (l.drop k)).length≤(textB l).length:=by
 conv=>rhs;rw[textB_split l k]
 simp
theorem placeW_le (l:List Ev) (k:Nat):placeAt l k≤(textB l).length:=by
 unfold placeAt
 conv=>rhs;rw[textB_split l k]
 simp
theorem cut_end (l:List Ev) (k:Nat) (h:¬k < l.length):Lib.cut (textB (l.drop k)) [10]=(lineAt l k,textB (l.drop (k+1)),false):=by
 rw[List.drop_eq_nil_of_le (by omega),List.drop_eq_nil_of_le (by omega),lineAt,List.getElem?_eq_none (by omega)];exact cut_none
theorem extract_place (l:List Ev) (k:Nat):(({data:=(textB l).toArray} :ByteArray).extract (placeAt l k) (textB l).length).data.toList=textB (l.drop k):=by
 rw[←drop_place l k];have:List.take ((textB l).length - placeAt l k) (List.drop (placeAt l k) (textB l))=List.drop (placeAt l k) (textB l):=List.take_of_length_le (by simp)
 simpa [ByteArray.data_extract] using this
theorem range_pre (k n:Nat) (h:k≤n):List.range k <+:List.range n:=by
 have:List.range k=(List.range n).take k:=by rw[List.take_range,Nat.min_eq_left h]
 rw[this];exact List.take_prefix _ _
theorem cut_call (l:List Ev) (k:Nat) (hl:∀e∈l,e.fault=0) (h120:l.length≤120) (m:Int) (w:World) (hm:w.cell? ⟨1,0,none⟩=some (.int .i64 m)):
  Calls Tryz.prog 40 #[.string (({data:=(textB l).toArray} :ByteArray).extract (placeAt l k) (textB l).length),.string ⟨#[10]⟩] w fun e w'=>e=.returned (.tuple #[.string ⟨(lineAt l k).toArray⟩,.string ⟨(textB (l.drop (k+1))).toArray⟩,.bool (decide (k < l.length))])∧∃n,w'=w.drewN n:=by
 have h1:=sh_strings_Cut (({data:=(textB l).toArray} :ByteArray).extract (placeAt l k) (textB l).length) ⟨#[10]⟩ m w (by
  have h2:=text_len l hl;have h3:(({data:=(textB l).toArray} :ByteArray).extract (placeAt l k) (textB l).length).size≤(textB l).length:=by
   simp[ByteArray.size,ByteArray.data_extract]
  omega) hm
 rw[extract_place] at h1;by_cases h:k < l.length
 ·rw[show (⟨#[10]⟩:ByteArray).data.toList= [10] from rfl,cutW_at l k hl h] at h1;rw[decide_eq_true h];exact h1
 ·rw[show (⟨#[10]⟩:ByteArray).data.toList= [10] from rfl,cut_end l k h] at h1;rw[decide_eq_false h];exact h1
abbrev Rd (l:List Ev):= {k:Nat // k≤l.length}
def encL (l:List Ev) (k:Rd l):Array Value:=#[.int .i64 (placeAt l k.1),.string ⟨(lineAt l k.1).toArray⟩]
theorem wrap_small {n:Int} (h0: -1000000≤n) (h1:n≤1000000):IntKind.i64.wrap n=n:=by
 rw[IntKind.wrap_i64];omega
theorem pre_snoc {l:List Ev} {pre:List (Rd l)} {k:Nat} (hk:k≤l.length) (h:pre.map (·.1)=List.range k):(pre++ [(⟨k,hk⟩:Rd l)]).map (fun x=>x.1)=List.range (k+1):=by
 rw[List.map_append,h,List.range_succ];rfl
theorem placeW_lt (l:List Ev) (k:Nat) (h:k < l.length):placeAt l k < placeAt l (k+1):=by
 unfold placeAt;rw[textB_succ l k h,List.length_append,List.length_append];simp
def KeptL (n₀ Bt:Nat) (W W':World):Prop:=Below n₀ W W'∧W'.heap[Bt]?=W.heap[Bt]?
set_option maxHeartbeats 4000000 in
theorem lines1_in (l:List Ev) (hl:∀e∈l,e.fault=0) (h120:l.length≤120) (n:Nat) (hn:1≤n) (y Bt n₀:Nat) (m:Int) (J Jx:List (Rd l)→World→Prop) (W:World) (hb2:1 < n₀)
  (hY:∀pre x W1,J pre W1→pre.length < l.length+1→YieldAt Fence.wide (n - 1) Tryz.prog y (encL l x) W1 fun e W'=>
   (e=.returned (.bool true)∧J (pre++ [x]) W'∧KeptL n₀ Bt W1 W')∨(e=.returned (.bool false)∧Jx (pre++ [x]) W'))
  (hJ:AbidesFrom W.heap.size J) (hc:W.cell? ⟨Bt,0,none⟩=some (.string ⟨(textB l).toArray⟩)) (hm:W.cell? ⟨1,0,none⟩=some (.int .i64 m)) (h0:J [] W):
  CallsIn Fence.wide n Tryz.prog 88 #[.func (.yield y) #[] #[],.pointer (some ⟨Bt,0,none⟩)] W fun e W'=>(∃v,e=.returned v)∧
   ((∃xs,xs.map (·.1)=List.range (l.length+1)∧J xs W')∨(∃pre,pre.map (·.1) <+:List.range (l.length+1)∧Jx pre W')):=by
 have HL:=hideIt hl;have HY:=hideIt hY;have HJ:=hideIt hJ;clear hl hY hJ;refine callsIn_of_wp Tryz.func88 rfl trivial ?_ rfl;simp only[Tryz.ntmps88,List.size_toArray,List.length_cons,List.length_nil,Nat.reduceAdd,Nat.reduceSub,Array.replicate_succ,Array.replicate_zero,List.push_toArray,List.append_toArray,List.nil_append,List.cons_append]
 gi_wp2
 gi_loopw [3] (fun p wr=>∃(k:Nat) (pre:List (Rd l)),k≤l.length∧p=.int .i64 (placeAt l k)∧pre.map (·.1)=List.range k∧wr.cell? ⟨Bt,0,none⟩=some (.string ⟨(textB l).toArray⟩)∧wr.cell? ⟨1,0,none⟩=some (.int .i64 m)∧J pre wr∧W.heap.size≤wr.heap.size)
  (fun p _=>(textB l).length+1 - (intOf p).toNat)
 case atStart=>exact⟨0,[],Nat.zero_le _,rfl,rfl,hc,hm,h0,Nat.le_refl _⟩
 case round=>
  obtain⟨k,pre,hk,rfl,hpre,hct,hmt,hJs,hsz⟩:=hrel;have HPR:=hideIt hpre;have HJS:=hideIt hJs;have hplen:pre.length=k:=by have:=congrArg List.length hpre;simpa using this
  clear hJs hpre;have hp1:(placeAt l k:Int)≤((textB l).length:Int):=by have:=placeW_le l k;omega
  gi_wp2
  refine⟨trivial,?_⟩;refine(callsIn_wide.2 (cut_call l k HL.out h120 m wr hmt)).mono ?_;rintro e w2 ⟨rfl,q,rfl⟩;have HJ2:=hideIt (HJ.out pre wr (wr.drewN q) none HJS.out ⟨rfl,rfl,rfl,Nat.le_refl _,fun _ _ _=>rfl⟩ (fun r e=>by cases e));obtain⟨fn,tmps,assign,body,hy,hR⟩:=HY.out pre ⟨k,hk⟩ (wr.drewN q) HJ2.out (by omega);dsimp only[encL] at hy;have HR:=hideIt hR;clear hR;by_cases hlt:k < l.length
  ·simp only[decide_eq_true hlt]
   gi_wp2
   refine HR.out.mono ?_;rintro e W3 (⟨rfl,hJ3,hk3⟩ | ⟨rfl,hJx3⟩)
   ·have hct3:W3.cell? ⟨Bt,0,none⟩=some (.string ⟨(textB l).toArray⟩):=(World.cell?_of_block (a:=⟨Bt,0,none⟩) hk3.2).trans hct;have hmt3:W3.cell? ⟨1,0,none⟩=some (.int .i64 m):=(hk3.1.cell (p:=⟨1,0,none⟩) hb2).trans hmt;have HJ3:=hideIt hJ3;have hsz3:W.heap.size≤W3.heap.size:=Nat.le_trans hsz hk3.1.size;have hps:=place_succ l k;have hpl:=textB_len_drop l (k+1);have htl:=text_len l HL.out;have hpw:IntKind.i64.wrap (((textB l).length:Int) - ((textB (l.drop (k+1))).length:Int))=(placeAt l (k+1):Int):=by
     rw[←hps];have:((((textB l).length - (textB (l.drop (k+1))).length:Nat)):Int)=((textB l).length:Int) - ((textB (l.drop (k+1))).length:Int):=by omega
     rw[this];exact wrap_small (by omega) (by omega)
    clear hJ3 hk3
    gi_wp2
    have hlt2:=placeW_lt l k hlt;have hle2:=placeW_le l (k+1);exact⟨⟨k+1,pre++ [⟨k,hk⟩],by omega,rfl,pre_snoc hk HPR.out,hct3,hmt3,HJ3.out,hsz3⟩,by simp[intOf];omega⟩
   ·gi_wp2
    refine bodyPost_ret (results_none rfl _ _ _) rfl ?_;exact⟨⟨_,rfl⟩,.inr ⟨pre++ [⟨k,hk⟩],by rw[pre_snoc hk HPR.out];exact range_pre _ _ (by omega),hJx3⟩⟩
  ·simp only[decide_eq_false hlt]
   gi_wp2
   refine HR.out.mono ?_;rintro e W3 (⟨rfl,hJ3,hk3⟩ | ⟨rfl,hJx3⟩)
   ·gi_wp2
    refine bodyPost_ret (results_none rfl _ _ _) rfl ?_;exact⟨⟨_,rfl⟩,.inl ⟨pre++ [⟨k,hk⟩],(pre_snoc hk HPR.out).trans (congrArg List.range (by omega)),hJ3⟩⟩
   ·gi_wp2
    refine bodyPost_ret (results_none rfl _ _ _) rfl ?_;exact⟨⟨_,rfl⟩,.inr ⟨pre++ [⟨k,hk⟩],by rw[pre_snoc hk HPR.out];exact range_pre _ _ (by omega),hJx3⟩⟩
theorem lines_stops (l:List Ev) (hl:∀e∈l,e.fault=0) (h120:l.length≤120) (n:Nat) (hn:1≤n) (Bt n₀:Nat) (m:Int) (w:World) (hb2:1 < n₀) (_hn₀:n₀≤w.heap.size)
  (hc:w.cell? ⟨Bt,0,none⟩=some (.string ⟨(textB l).toArray⟩)) (hBw:Bt < w.heap.size) (hm:w.cell? ⟨1,0,none⟩=some (.int .i64 m)):
  SeqStopsK Fence.wide n Tryz.prog 88 #[.pointer (some ⟨Bt,0,none⟩)] (encL l) (KeptL n₀ Bt) (fun xs=>xs.map (fun x=>x.1)=List.range (l.length+1)) (fun pre=>pre.map (fun x=>x.1) <+:List.range (l.length+1)) (l.length+1) w:=
 fun y J Jx W hW hJ _ hY h0=>lines1_in l hl h120 n hn y Bt n₀ m J Jx W hb2 hY hJ ((hW.cell (p:=⟨Bt,0,none⟩) hBw).trans hc) ((hW.cell (p:=⟨1,0,none⟩) (by show 1 < w.heap.size;omega)).trans hm) h0
theorem keptL_t {n₀ Bt:Nat} {A B C:World} (h:KeptL n₀ Bt A B) (k:KeptL n₀ Bt B C):KeptL n₀ Bt A C:=⟨h.1.trans k.1,k.2.trans h.2⟩
theorem keptL_b {n₀ Bt:Nat} {w:World} (hn:n₀≤w.heap.size) (hB:Bt < w.heap.size) (W:World) (l:Nat) (o o':Obj) (hl:w.heap.size≤l) (h:W.heap[l]?=some o) (h1:o.isCells=false) (h2:o.isWalk=false):KeptL n₀ Bt W (W.putObj l o'):=
 ⟨belowK_b hn W l o o' hl h h1 h2,World.putObj_heap_other (by omega)⟩
theorem lines_call (s:ByteArray) (w:World):Calls Tryz.prog 39 #[.string s] w fun e w'=>e=.returned (.func (.func 88) #[] #[.pointer (some ⟨w.heap.size,0,none⟩)])∧w'=w.alloc (.cells #[.string s] 9):=by
 go_enter Tryz.func39,Tryz.ntmps39
 go_wp2;go_ret;exact⟨rfl,rfl⟩
def evsOf (l:List Ev) (pre:List (Rd l)):List Ev:=pre.filterMap fun x=>l[x.1]?
theorem evsOf_len (l:List Ev) (pre:List (Rd l)):(evsOf l pre).length≤pre.length:=List.length_filterMap_le _ _
theorem filterMap_range (l:List Ev):∀k,(List.range k).filterMap (fun i=>l[i]?)=l.take k
 | 0=>by simp
 | k+1=>by
  rw[List.range_succ,List.filterMap_append,filterMap_range l k,List.take_add_one];cases h:l[k]?<;>simp[List.filterMap,h]
theorem evsOf_eq (l:List Ev) (pre:List (Rd l)) (k:Nat) (h:pre.map (fun x=>x.1)=List.range k):evsOf l pre=l.take k:=by
 rw[←filterMap_range,←h,List.filterMap_map];rfl
open Go.RowKit Go.Lib Go.Shelf
attribute [local go_sem] Oper.semAt_some
theorem info23:(Tryz.prog.info? 54).map (fun i=>(i.zero,i.size,i.bytes))=some (some (.agg #[.int .i64 0,.int .i64 0,.int .i64 0,.int .i64 0,.int .i64 0,.int .i64 0,.int .i64 0]),7,56):=by kernel_rfl
theorem keeps_below {W W':World} (h:Below W.heap.size W W'):KeepsOthers W W':=⟨h.size,fun k _ hk _=>(h.block k (Array.getElem?_eq_some_iff.1 hk).1).trans hk⟩
theorem new7 (w:World) (e:Ev):∀j u,e.cells[j]?=some u→((w.alloc (.cells #[.int .i64 e.p,.int .i64 e.t,.int .i64 e.k,.int .i64 e.d,.int .i64 e.a,.int .i64 e.b,.int .i64 e.r] 54)).alloc (.cells #[.int .i64 e.p,.int .i64 e.t,.int .i64 e.k,.int .i64 e.d,.int .i64 e.a,.int .i64 e.b,.int .i64 e.r] 54)).cell? ((⟨w.heap.size+1,0,none⟩:Addr).add j)=some u:=by
 have h1:(w.alloc (.cells #[.int .i64 e.p,.int .i64 e.t,.int .i64 e.k,.int .i64 e.d,.int .i64 e.a,.int .i64 e.b,.int .i64 e.r] 54)).heap.size=w.heap.size+1:=by simp
 intro j u hj;rw[←h1]
 match j,hj with
 | 0,hj=>simp[Ev.cells] at hj;subst hj;simp[Addr.add]
 | 1,hj=>simp[Ev.cells] at hj;subst hj;simp[Addr.add]
 | 2,hj=>simp[Ev.cells] at hj;subst hj;simp[Addr.add]
 | 3,hj=>simp[Ev.cells] at hj;subst hj;simp[Addr.add]
 | 4,hj=>simp[Ev.cells] at hj;subst hj;simp[Addr.add]
 | 5,hj=>simp[Ev.cells] at hj;subst hj;simp[Addr.add]
 | 6,hj=>simp[Ev.cells] at hj;subst hj;simp[Addr.add]
 | n+7,hj=>simp[Ev.cells] at hj
theorem ev_one (e:Ev):∀u∈e.cells,u.oneCell'=true:=by
 intro u hu;simp[Ev.cells] at hu;rcases hu with rfl | rfl | rfl | rfl | rfl | rfl | rfl<;>rfl
theorem evCells_snoc (l:List Ev) (e:Ev):evCells (l++ [e])=evCells l++e.cells:=by unfold evCells;rw[List.flatMap_append];simp
theorem own_setne {w:World} {base e size n q j:Nat} {v u:Value} {xs:List Value} (h:w.ownsRow base e size v n xs) (hq:some q≠v.ownBlock):(w.setCell ⟨q,j,none⟩ u).ownsRow base e size v n xs:=by
 refine⟨h.1,h.2.imp id ?_⟩;rintro⟨g,cap,cur,a,b,c,d⟩;subst a;exact⟨g,cap,cur,rfl,b,(Below.heap_setCell w ⟨q,j,none⟩ u g (by show g≠q;intro e;exact hq (by rw[←e];rfl))).trans c,d⟩
theorem words7 (e:Ev) (w:World) (hz:e.fault=0):
  Calls Tryz.prog 131 #[.string ⟨(lineB e).toArray⟩] w fun x w'=>∃A,x=.returned (.slice (some ⟨A,0,none⟩) 7 7)∧A < w'.heap.size∧WordsAt w' A e∧Below w.heap.size w w':=by
 have hs:=small_of_fault hz;have h1:=words_any ⟨(lineB e).toArray⟩ w (by have:=line_len e hs;simp[ByteArray.size];omega);rw[fields_line hs.1] at h1;refine h1.mono ?_;rintro x w' ⟨A,rfl,_,hown,hb⟩;obtain⟨_,hv | ⟨g,cap,cur,hv,_,hg,_,_,_,ht⟩⟩:=hown
 ·cases hv.1
 ·cases hv;have hc:∀j u,((wordsOf e).map fun l=>Value.string ⟨l.toArray⟩)[j]?=some u→w'.cell? ⟨A,j,none⟩=some u:=fun j u hu=>by
   rw[cell_of_row _ _ _ _ _ _ hg];have e1:List.map Value.string ((wordsOf e).map fun l=>(⟨l.toArray⟩:ByteArray))=(wordsOf e).map fun l=>Value.string ⟨l.toArray⟩:=by simp[Function.comp_def]
   rw[e1] at ht;rw[←ht,List.getElem?_take] at hu
   split at hu
   ·rw[←Array.getElem?_toList];exact hu
   ·cases hu
  exact⟨A,rfl,(Array.getElem?_eq_some_iff.1 hg).1,⟨hc 0 _ rfl,hc 1 _ rfl,hc 2 _ rfl,hc 3 _ rfl,hc 4 _ rfl,hc 5 _ rfl,hc 6 _ rfl⟩,hb⟩
theorem words0 (w:World):
  Calls Tryz.prog 131 #[.string ⟨([]:List UInt8).toArray⟩] w fun x w'=>∃A,x=.returned (.slice (some ⟨A,0,none⟩) 0 0)∧Below w.heap.size w w':=by
 have h1:=words_any ⟨([]:List UInt8).toArray⟩ w (by simp[ByteArray.size]);have h2:=fields_words [] (by simp) (by simp[Lib.join]);rw[show (Lib.join [] [32]:List UInt8)= [] from rfl] at h2;rw[h2] at h1;refine h1.mono ?_;rintro x w' ⟨A,rfl,_,_,hb⟩;exact⟨A,rfl,hb⟩
set_option maxHeartbeats 4000000 in
theorem parse_any (l:List Ev) (hl:∀e∈l,e.fault=0) (h120:l.length≤120) (m:Int) (w:World) (hp:Pow w) (h9:4≤w.heap.size) (hm:w.cell? ⟨1,0,none⟩=some (.int .i64 m)):
  Calls Tryz.prog 70 #[.string ⟨(textB l).toArray⟩] w fun e w'=>∃v,e=.returned (.tuple #[v,.nilIface])∧w'.ownsRow w.heap.size 54 7 v l.length (evCells l)∧Below w.heap.size w w':=by
 have HL:=hideIt hl;have HP:=hideIt hp;have HM:=hideIt hm;clear hl hp hm;have htl:=text_len l HL.out;have g1:decide (20000 < ((textB l).length:Int))=false:=by simp;omega
 obtain⟨i0,hi,hz0,hz1,hz2⟩:=info_parts info23;refine(callsIn_wide (n:=4)).1 ?_;refine callsIn_of_wp_marks Tryz.func70 rfl trivial ?_ rfl;simp only[Tryz.ntmps70,List.size_toArray,List.length_cons,List.length_nil,Nat.reduceAdd,Nat.reduceSub,Array.replicate_succ,Array.replicate_zero,List.push_toArray,List.append_toArray,List.nil_append,List.cons_append]
 gi_wp2
 refine⟨trivial,?_⟩;refine(callsIn_wide.2 (lines_call _ _)).mono ?_;rintro e w' ⟨rfl,rfl⟩;have b0:=Boxed.new w 32 (.slice none 0 0);have b1:=Boxed.new (w.alloc (.cells #[.slice none 0 0] 32)) 29 .nilIface;have b2:=Boxed.new ((w.alloc (.cells #[.slice none 0 0] 32)).alloc (.cells #[.nilIface] 29)) 32 (.slice none 0 0);have b3:=Boxed.new (((w.alloc (.cells #[.slice none 0 0] 32)).alloc (.cells #[.nilIface] 29)).alloc (.cells #[.slice none 0 0] 32)) 9 (.string ⟨(textB l).toArray⟩);simp only[World.size_alloc] at b1 b2 b3;have b0:=((b0.alloc (.cells #[.nilIface] 29)).alloc (.cells #[.slice none 0 0] 32)).alloc (.cells #[.string ⟨(textB l).toArray⟩] 9);have b1:=(b1.alloc (.cells #[.slice none 0 0] 32)).alloc (.cells #[.string ⟨(textB l).toArray⟩] 9);have b2:=b2.alloc (.cells #[.string ⟨(textB l).toArray⟩] 9);have hB0:Below w.heap.size w ((((w.alloc (.cells #[.slice none 0 0] 32)).alloc (.cells #[.nilIface] 29)).alloc (.cells #[.slice none 0 0] 32)).alloc (.cells #[.string ⟨(textB l).toArray⟩] 9)):=belA (belA (belA (belA (Below.refl _ _) _) _) _) _;have hs0:((((w.alloc (.cells #[.slice none 0 0] 32)).alloc (.cells #[.nilIface] 29)).alloc (.cells #[.slice none 0 0] 32)).alloc (.cells #[.string ⟨(textB l).toArray⟩] 9)).heap.size=w.heap.size+4:=by simp
 gi_wp2
 obtain⟨W0,hW0⟩:∃W0,W0=(((w.alloc (.cells #[.slice none 0 0] 32)).alloc (.cells #[.nilIface] 29)).alloc (.cells #[.slice none 0 0] 32)).alloc (.cells #[.string ⟨(textB l).toArray⟩] 9):=⟨_,rfl⟩;rw[←hW0] at b0 b1 b2 b3 hB0 hs0 ⊢;clear hW0;refine wpIn_rangeFunc_ownF rfl (by omega) (gf:=88) (lb:=#[.pointer (some ⟨w.heap.size+1+1+1,0,none⟩)]) rfl trivial (enters_of (P:=Tryz.prog) Tryz.func88 (by kernel_rfl) rfl)
  (lines_stops l HL.out h120 3 (by omega) (w.heap.size+1+1+1) w.heap.size m W0 (by omega) (by omega) b3.cell (by omega) ((hB0.cell (p:=⟨1,0,none⟩) (by show 1 < w.heap.size;omega)).trans HM.out)) keptL_t (keptL_b (by omega) (by omega)) (Below.refl _ _) (fun _=>rfl)
  (fun pre W=>(∃v,Boxed W (w.heap.size+1+1) 32 v∧W.ownsRow w.heap.size 54 7 v (evsOf l pre).length (evCells (evsOf l pre))∧True)∧(Boxed W w.heap.size 32 (.slice none 0 0)∧Boxed W (w.heap.size+1) 29 .nilIface∧Boxed W (w.heap.size+1+1+1) 9 (.string ⟨(textB l).toArray⟩))∧Below w.heap.size w W)
  (fun _ pre _=>120 < (evsOf l pre).length)
  (OwnFrom.and (Own.from (holdsRow_own w.heap.size (w.heap.size+1+1) 32 54 7 (fun pre=>(evsOf l pre).length) (fun pre=>evCells (evsOf l pre)) (fun _ _=>True)) _) (OwnFrom.and (OwnFrom.and (Own.from (boxed_own _ _ _) _) (OwnFrom.and (Own.from (boxed_own _ _ _) _) (Own.from (boxed_own _ _ _) _))) (ownFrom_below (Nat.le_refl _) (by omega))))
  (fun _ _ _ _ _ hs _ _=>hs)
  ⟨⟨_,b2,World.ownsRow_nil _ _ _ _,trivial⟩,⟨b0,b1,b3⟩,hB0⟩
  (fun x=> {tmps:=#[.string ⟨(textB l).toArray⟩,undef,.pointer (some ⟨w.heap.size,0,none⟩),.pointer (some ⟨w.heap.size+1,0,none⟩),.pointer (some ⟨w.heap.size+1+1,0,none⟩),.int .i64 (placeAt l x.1),.string ⟨(lineAt l x.1).toArray⟩,undef,undef,undef,.string ⟨(textB l).toArray⟩,.int .i64 (textB l).length,.bool false,undef,.string ⟨(textB l).toArray⟩,.func (.func 88) #[] #[.pointer (some ⟨w.heap.size+1+1+1,0,none⟩)],.int .i64 (placeAt l x.1),.string ⟨(lineAt l x.1).toArray⟩,undef,undef,undef,undef,undef,undef,undef,undef,undef,undef,undef,undef,undef,undef,undef,undef,undef,undef,undef,undef,undef,undef,undef,undef,undef,undef,undef,undef,undef],defers:= []}) ?assign ?body ?done ?stop
 case assign=>
  intro y x W K hK;unfold encL
  gi_wp2
  exact hK
 case body=>
  rintro y pre x W ⟨⟨v,hv,hrow,_⟩,⟨c0,c1,c3⟩,hB⟩ hlt;have hpl:=evsOf_len l pre;by_cases hx:x.1 < l.length
  ·obtain⟨e,he⟩:∃e,l[x.1]=e:=⟨_,rfl⟩;have hz:e.fault=0:=by rw[←he];exact HL.out _ (List.getElem_mem hx)
   have hla:lineAt l x.1=lineB e:=by unfold lineAt;rw[List.getElem?_eq_getElem hx,he]
   have hev:evsOf l (pre++ [x])=evsOf l pre++ [e]:=by unfold evsOf;rw[List.filterMap_append];simp[List.getElem?_eq_getElem hx,he]
   have HWD:=hideIt (words7 e W hz);have HEV:=hideIt hev;have HV:=hideIt hv;have HR:=hideIt hrow;have HC:=hideIt (And.intro c0 (And.intro c1 c3));have HBW:=hideIt hB;have hc2:=hv.cell;have hszW:=hB.size;clear hv hrow c0 c1 c3 hB he hev b0 b1 b2 b3 hB0;rw[hla];clear hla
   gi_wp2
   refine⟨trivial,?_⟩;refine(CallsIn.inRound y (callsIn_wide.2 HWD.out)).mono ?_;rintro ev w2 ⟨A,rfl,hA,hwa,hb2⟩;have HB2:=hideIt hb2;have HPW:=hideIt (parseWords_any e A w2 hz hA hwa (HP.out.below (HBW.out.trans (hb2.mono hszW)) h9) (by have:=hb2.size;omega));clear hb2 hwa
   gi_wp2
   refine⟨trivial,?_⟩;refine(CallsIn.inRound y (callsIn_wide.2 HPW.out)).mono ?_;rintro ev w3 ⟨rfl,hb3⟩;have HB3:=hideIt (belJ HB2.out hb3);clear hb3;have hv3:Hid (Boxed w3 (w.heap.size+1+1) 32 v):=hideIt ((HB3.out.block _ HV.out.lt).trans HV.out);obtain⟨va,vc,rfl⟩:∃a c,v=.slice a (evsOf l pre).length c:=by
    rcases HR.out.2 with ⟨h1,h2⟩ | ⟨g,cap,cur,h1,_⟩
    ·exact⟨none,0,by rw[h1,h2]⟩
    ·exact⟨_,_,h1⟩
   have hc4:=(hv3.out.alloc (.cells #[.int .i64 e.p,.int .i64 e.t,.int .i64 e.k,.int .i64 e.d,.int .i64 e.a,.int .i64 e.b,.int .i64 e.r] 54)).cell;have hlt3:w.heap.size+1+1 < w3.heap.size:=hv3.out.lt;clear hc2;by_cases h12:(evsOf l pre).length=120
   ·have k12:(((evsOf l pre).length:Int)==120)=true:=by rw[h12];rfl
    have hk3:∀{B t:Nat} {u:Value},Boxed W B t u→Boxed w3 B t u:=fun h=>(HB3.out.block _ h.lt).trans h
    have e0:=(hk3 HC.out.1).cell;have f0:=(hk3 HC.out.1).frozen;have e1:=(hk3 HC.out.2.1).cell;have f1:=(hk3 HC.out.2.1).frozen;have l0:w.heap.size < w3.heap.size:=by omega
    have l1:w.heap.size+1 < w3.heap.size:=by omega
    clear hk3
    gi_wp2
    refine⟨((((keeps_below HB3.out).trans (KeepsOthers.setCell _ _ _)).trans (KeepsOthers.setCell _ _ _)).trans (KeepsOthers.alloc _ _)).trans (KeepsOthers.alloc _ _),?_⟩;show 120 < (evsOf l (pre++ [x])).length;rw[HEV.out,List.length_append,h12];simp
   ·have k12:(((evsOf l pre).length:Int)==120)=false:=by rw[beq_eq_false_iff_ne];omega
    have HR5:=hideIt ((own_below HR.out HB3.out).alloc (.cells #[.int .i64 e.p,.int .i64 e.t,.int .i64 e.k,.int .i64 e.d,.int .i64 e.a,.int .i64 e.b,.int .i64 e.r] 54));have HV5:=hideIt (hv3.out.alloc (.cells #[.int .i64 e.p,.int .i64 e.t,.int .i64 e.k,.int .i64 e.d,.int .i64 e.a,.int .i64 e.b,.int .i64 e.r] 54));have hs5:w.heap.size≤(w3.alloc (.cells #[.int .i64 e.p,.int .i64 e.t,.int .i64 e.k,.int .i64 e.d,.int .i64 e.a,.int .i64 e.b,.int .i64 e.r] 54)).heap.size:=by simp;omega
    gi_wp2_with (gi_at_builtin;refine wpListIn_append_own _ rfl _ _ 32 rfl w.heap.size 54 i0 _ 7 56 Tryz.underlying32 hi hz0 hz1 hz2 rfl (by decide) _ _ _ rfl (HR5.out.alloc _) ⟨w3.heap.size+1,0,none⟩ 1 1 e.cells rfl rfl (new7 w3 e) (ev_one e) (by unfold maxLen;omega) (by omega) (by simp;omega) ?_;intro v' w6 hown' hgrow _;obtain⟨g',cap',rfl⟩:=ownsRow_succ hown';obtain⟨hv1,hv2,hr2,hk2,hb2⟩:=HV5.out.appended (by decide) HR5.out hs5 (by omega) hown' hgrow;have hc1:=hv1.cell;have hf1:=hv1.frozen;have HG:=hideIt hgrow;clear hgrow hown';have HV1:=hideIt hv1;have HV2:=hideIt hv2;have HR2:=hideIt hr2;have HK2:=hideIt hk2;have HBB:=hideIt hb2;clear hv1 hv2 hr2 hk2 hb2)
    have hk6:∀{B t:Nat} {u:Value},Boxed W B t u→t≠54→B≠w.heap.size+1+1→Boxed (w6.setCell ⟨w.heap.size+1+1,0,none⟩ (.slice (some ⟨g',0,none⟩) ((evsOf l pre).length+1) cap')) B t u:=fun {B t u} h ht hne=>by
     have h3:Boxed (w3.alloc (.cells #[.int .i64 e.p,.int .i64 e.t,.int .i64 e.k,.int .i64 e.d,.int .i64 e.a,.int .i64 e.b,.int .i64 e.r] 54)) B t u:=Boxed.alloc ((HB3.out.block _ h.lt).trans h) _;have h6:Boxed w6 B t u:=(h3.alloc _).kept HG.out (h3.not_row ht HR5.out);exact(Below.heap_setCell _ ⟨_,0,none⟩ _ B hne).trans h6
    have q3:=hk6 HC.out.2.2 (by decide) (by omega);have hBW6:=((HB3.out.alloc HB3.out.size (.cells #[.int .i64 e.p,.int .i64 e.t,.int .i64 e.k,.int .i64 e.d,.int .i64 e.a,.int .i64 e.b,.int .i64 e.r] 54)).mono hszW).trans HBB.out;refine⟨((keeps_below HB3.out).trans (KeepsOthers.alloc _ _)).trans HK2.out,⟨hBW6,q3.trans HC.out.2.2.symm⟩,⟨_,HV2.out,?_,trivial⟩,⟨hk6 HC.out.1 (by decide) (by omega),hk6 HC.out.2.1 (by decide) (by omega),q3⟩,HBW.out.trans hBW6⟩;rw[HEV.out,List.length_append,evCells_snoc];exact HR2.out
  ·have hla:lineAt l x.1= []:=by unfold lineAt;rw[List.getElem?_eq_none (by omega)]
   have hev:evsOf l (pre++ [x])=evsOf l pre:=by unfold evsOf;rw[List.filterMap_append];simp[List.getElem?_eq_none (Nat.not_lt.1 hx)]
   have HEV:=hideIt hev;have HV:=hideIt hv;have HR:=hideIt hrow;have HC:=hideIt (And.intro c0 (And.intro c1 c3));have HBW:=hideIt hB;have HWD:=hideIt (words0 W);clear hv hrow c0 c1 c3 hB hev b0 b1 b2 b3 hB0;rw[hla];clear hla
   gi_wp2
   refine⟨trivial,?_⟩;refine(CallsIn.inRound y (callsIn_wide.2 HWD.out)).mono ?_;rintro ev w2 ⟨A,rfl,hb2⟩;have HB2:=hideIt hb2;clear hb2
   gi_wp2
   have hkp:∀{B t:Nat} {u:Value},Boxed W B t u→Boxed w2 B t u:=fun h=>(HB2.out.block _ h.lt).trans h
   refine⟨keeps_below HB2.out,⟨HB2.out.mono HBW.out.size,HB2.out.block _ HC.out.2.2.lt⟩,⟨v,hkp HV.out,?_,trivial⟩,⟨hkp HC.out.1,hkp HC.out.2.1,hkp HC.out.2.2⟩,HBW.out.trans (HB2.out.mono HBW.out.size)⟩;rw[HEV.out];exact own_below HR.out HB2.out
 case done=>
  rintro D ys W hD hS ⟨⟨v,hv,hrow,_⟩,⟨c0,c1,c3⟩,hB⟩ hK;have hev:evsOf l ys=l:=by rw[evsOf_eq l ys _ hS];exact List.take_of_length_le (by omega)
  rw[hev] at hrow;obtain⟨va,vc,rfl⟩:∃a c,v=.slice a l.length c:=by
   rcases hrow.2 with ⟨h1,h2⟩ | ⟨g,cap,cur,h1,_⟩
   ·exact⟨none,0,by rw[h1,h2]⟩
   ·exact⟨_,_,h1⟩
  have HR:=hideIt hrow;have hc2:=hv.cell;have N0:=hideIt (c0.not_row (by decide) hrow);have N1:=hideIt (c1.not_row (by decide) hrow);have e0:=c0.cell;have f0:=c0.frozen;have e1:=c1.cell;have f1:=c1.frozen;have HKD:=hideIt hK;have HB:=hideIt hB;clear hrow hK hB hv c0 c1 c3 b0 b1 b2 b3 hB0 hev hS
  gi_wp2
  have hK':=((KeepsOthers.setCell W ⟨w.heap.size,0,none⟩ (.slice va l.length vc)).trans (KeepsOthers.setCell _ ⟨w.heap.size+1,0,none⟩ .nilIface)).same D _ HKD.out rfl;refine⟨by simp,.inl ⟨_,_,rfl,run_takeDeferred hK',?_⟩⟩;have a0:=cell_kept ((World.cell?_setCell_other _ ⟨w.heap.size+1,0,none⟩ ⟨w.heap.size,0,none⟩ .nilIface (by simp)).trans (World.cell?_setCell_same' W ⟨w.heap.size,0,none⟩ (.slice va l.length vc) (by rw[e0];rfl))) (grownBy_putObj' _ D (.deferred none)) (fun r e=>by cases e;exact⟨_,hK',rfl⟩);have a1:=cell_kept (World.cell?_setCell_same' (W.setCell ⟨w.heap.size,0,none⟩ (.slice va l.length vc)) ⟨w.heap.size+1,0,none⟩ .nilIface (by rw[World.cell?_setCell_other _ _ _ _ (by simp),e1];rfl)) (grownBy_putObj' _ D (.deferred none)) (fun r e=>by cases e;exact⟨_,hK',rfl⟩);have ho:=ownsRow_putObj (own_setne (own_setne HR.out N0.out) N1.out) (.deferred none) hK' rfl;refine⟨_,?_,_,rfl,ho,((HB.out.setCell (p:=⟨w.heap.size,0,none⟩) (Nat.le_refl _) _).setCell (p:=⟨w.heap.size+1,0,none⟩) (by show w.heap.size≤w.heap.size+1;omega) _).trans (belowK_b (w:=w) (Nat.le_refl _) _ D _ _ (by omega) hK' rfl rfl)⟩;simp[results,Tryz.results70,go_sem,a0,a1]
 case stop=>
  rintro D c pre W hD ⟨t,ht⟩ h hK
  exfalso
  have h1:pre.map (fun x=>x.1)=List.range pre.length:=by
   have h2:pre.map (fun x=>x.1)=(List.range (l.length+1)).take pre.length:=by rw[←ht];simp
   rw[h2,List.take_range,Nat.min_eq_left];have:=congrArg List.length ht;simp at this;omega
  have h3:=evsOf_eq l pre _ h1;have h4:(evsOf l pre).length≤l.length:=by rw[h3];simp;omega
  omega
end Go.Proofs.YtjpklmighoondaaGreatDoor
namespace Go.Proofs.YtjpklmighoondaaGreatDoor.Pg
open Go.RowKit Go.Lib Go.Shelf
open Gn (ba ba_data ba_size)
attribute [local go_sem] Oper.semAt_some
open Go.RowKit Go.Lib
open Gn (ba ba_data ba_size)
open Go.RowKit Go.Lib
open Gn (ba ba_data ba_size)
open Go.RowKit Go.Lib
open Gn (ba ba_data ba_size)
open Go.RowKit Go.Lib
open Gn (ba ba_data ba_size)
end Go.Proofs.YtjpklmighoondaaGreatDoor.Pg
