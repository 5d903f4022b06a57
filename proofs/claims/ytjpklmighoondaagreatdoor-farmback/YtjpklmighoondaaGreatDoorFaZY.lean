/-
  The fact that the statements of chapter 20 hold ahead: a plan of one write (plain).
  A plan's text, walked: numbers in a line.
  A plan's text, walked: what a line tells.
  The iterator over a text's lines: its contract at a text of whole lines.
  A plan's text, walked: the set of the names that were told.
-/
import Derived.Test.YtjpklmighoondaaGreatDoorRdHY
import Derived.Test.YtjpklmighoondaaGreatDoorRdBY
import Derived.Test.YtjpklmighoondaaGreatDoorFieldsQY
import Derived.RangeFuncNested
import Derived.RangeFuncBound
import Derived.RangeFuncCalls
import Derived.RangeFuncLeaves
import Derived.Shelf.Abstract
import Derived.WalkKit
import Derived.OwnWalkIn
import Derived.TacticsInMore
import Derived.LoopNIn
import Derived.LoopIn
import Derived.Test.YtjpklmighoondaaGreatDoorFmtY
import Derived.Maps.OwnSet
set_option maxRecDepth 100000
namespace Go.Proofs.YtjpklmighoondaaGreatDoor.Fa
theorem drn_drain:∀(k:Nat) (T:Trl),(drainF k T).p.mails= []→Drn T (drainF k T)
 | 0,T,h=>.done T h
 | k+1,T,h=>by
  unfold drainF at h ⊢
  split at h
  ·rename_i h0
   rw[if_pos h0];exact .done T h0
  ·rename_i h0
   rw[if_neg h0];exact .step h0 (drn_drain k _ h)
def g1:Gn.Gt:=.lim (.wr 0 5 5) 1
def Tt0:Trl:=(T00 3 1 2 2 true g1 []).play ⟨6,0,0,0⟩
def Tt1:Trl:=(begsF Tt0 1).1
def Tt2:Trl:=drainF 40 Tt1
def Tt3:Trl:=(begsF Tt2 1).1
theorem tt1:(begsF Tt0 1).2=true:=by rfl
theorem tt2:Tt2.p.mails= []:=by rfl
theorem tt3:(begsF Tt2 1).2=false:=by rfl
theorem tt_evs:Tt3.p.evs= [⟨0,1,0,2,5,0,0⟩,⟨0,2,0,2,5,0,0⟩]:=by rfl
theorem tt_fin:Fin Tt0 Tt3:=.more (T1:=Tt0) (.done Tt0 rfl) tt1 (.last (T1:=Tt2) (drn_drain 40 Tt1 tt2) tt3)
theorem tt_ops {L:List Opn} (h:OpsOf (hist (Tt3.p.evs.map toEv) (Tt3.p.evs.map toEv).length) L):L= [⟨0,0,2,5,0,0,0,1⟩]:=by
 rw[tt_evs] at h;obtain⟨qs,hd,hq,hp,_⟩:=h;have hqs:qs= []:=by
  cases qs with
  | nil=>rfl
  | cons q qs=>
   have h1:=(hq q).1 (by simp);have e:((hist (List.map toEv [⟨0,1,0,2,5,0,0⟩,⟨0,2,0,2,5,0,0⟩]) 2).busy q)=none:=by
    show (setO (setO (fun _=>none) 0 _) 0 none) q=none;unfold setO
    split<;>simp_all
   have h2:((hist (List.map toEv [⟨0,1,0,2,5,0,0⟩,⟨0,2,0,2,5,0,0⟩]) 2).busy q).isSome=true:=h1;rw[e] at h2;cases h2
 subst hqs;have hp2:L.Perm [⟨0,0,2,5,0,0,0,1⟩]:=hp;exact List.perm_singleton.1 hp2
theorem tt_code {L:List Opn} (h:OpsOf (hist (Tt3.p.evs.map toEv) (Tt3.p.evs.map toEv).length) L):(searchM (srB 1 L 10000)).code=1:=by
 rw[tt_ops h];rfl
theorem tt_ok:RepOk 10000 Tt3.p:=by
 refine⟨by rw[tt_evs];decide,?_,fun L hL _=>?_⟩
 ·rw[tt_evs];intro i hi _
  match i,hi with
  | 0,_=>rfl
  | 1,_=>rfl
  | n+2,h=>exact absurd h (by show ¬n+2 < 2;omega)
 ·rw[tt_ops hL];refine .inr (.inr ⟨by decide,by decide,by decide,.inr (.inr ⟨told0 _ (by decide) fun j hj=>?_,by decide,rfl⟩)⟩)
  match j,hj with
  | 0,_=>rfl
  | n+1,h=>exact absurd h (by show ¬n+1 < 1;omega)
open Go.RowKit Go.Shelf
set_option maxHeartbeats 1000000 in
theorem idx_any (ts:List Gn.Bt) (hn:ts.length≤1000) (hx:∀j (h:j < ts.length),ts[j]≠ []) (g cap:Nat) (w:World) (hc:∀j (h:j < ts.length),w.cell? ⟨g,j,none⟩=some (.string (Gn.ba ts[j]))):
  Calls Tryz.prog 128 #[.slice (some ⟨g,0,none⟩) ts.length cap,.string (Gn.ba [])] w fun e w'=>e=.returned (.int .i64 (-1))∧w'=w:=by
 have HX:=hideIt hx;have HC:=hideIt hc;clear hx hc;go_enter Tryz.func128,Tryz.ntmps128
 go_wp2
 go_loopw [8] (fun v wr=>∃k:Nat,k≤ts.length∧v=.int .i64 k∧wr=w) (fun v _=>ts.length - (intOf v).toNat)
 case atStart=>exact⟨0,Nat.zero_le _,rfl,rfl⟩
 case round=>
  obtain⟨k,hk,rfl,rfl⟩:=hrel;by_cases hkn:k < ts.length
  ·have hkn':(k:Int) < ts.length:=by omega
   have c0:=HC.out k hkn;have g1:=Gn.ba_ne (Ne.symm (HX.out k hkn));generalize ts[k]=y at*
   go_wp2
   go_roundw
   case rel=>exact⟨k+1,by omega,by go_num,trivial⟩
   case measure=>simp[intOf];omega
  ·obtain rfl:k=ts.length:=by omega
   go_wp2;go_ret;exact⟨rfl,rfl⟩
theorem cont_any (ts:List Gn.Bt) (hn:ts.length≤1000) (hx:∀j (h:j < ts.length),ts[j]≠ []) (g cap:Nat) (w:World) (hc:∀j (h:j < ts.length),w.cell? ⟨g,j,none⟩=some (.string (Gn.ba ts[j]))):
  Calls Tryz.prog 144 #[.slice (some ⟨g,0,none⟩) ts.length cap,.string (Gn.ba [])] w fun e w'=>e=.returned (.bool false)∧w'=w:=by
 have HI:=hideIt (idx_any ts hn hx g cap w hc);clear hx hc;go_enter Tryz.func144,Tryz.ntmps144
 go_wp2_with fail
 refine HI.out.mono ?_;rintro e w1 ⟨rfl,rfl⟩;go_wp2;go_ret;exact⟨rfl,rfl⟩
def updN (cs:Array Value) (o:Nat→Nat) (v:Nat→Int):Nat→Array Value
 | 0=>cs
 | k+1=>(updN cs o v k).setIfInBounds (o k) (.int .i64 (v k))
theorem updN_size (cs:Array Value) (o:Nat→Nat) (v:Nat→Int):∀k,(updN cs o v k).size=cs.size
 | 0=>rfl
 | k+1=>by show ((updN cs o v k).setIfInBounds _ _).size=_;rw[Array.size_setIfInBounds,updN_size]
set_option maxHeartbeats 4000000 in
theorem hearN (t:Gn.Bt) (ts:List Gn.Bt) (n:Nat) (v:Nat→Int) (o:Nat→Nat) (hn:ts.length=n) (hn8:n≤8) (ht:t.length≤3000) (hc:Lib.countB (Gn.ba t) ⟨#[32]⟩+1=n) (hsp:Lib.splitB ⟨#[32]⟩ 0 (Lib.countB (Gn.ba t) ⟨#[32]⟩) (Gn.ba t)=ts.map Gn.ba)
  (hw:∀j (h:j < ts.length),Gn.numD ts[j]=some (v j)∧ts[j]≠ []∧okBud (v j)=true∧ts[j].length≤3000)
  (P S cap:Nat) (cs:Array Value) (m:Int) (w:World) (hP:w.heap[P]?=some (.cells cs 25 (0,0))) (hS:∀j,j < n→w.cell? ⟨S,j,none⟩=some (.pointer (some ⟨P,o j,none⟩))∧o j < cs.size) (hSP:S≠P)
  (hv:Gn.ErrV w) (hp:Gn.PowT w) (hm:w.cell? ⟨1,0,none⟩=some (.int .i64 m)) (hPg:Gn.gRng≠P∧Gn.gSyn≠P∧Gn.gPow≠P):
  Calls Tryz.prog 91 #[.string (Gn.ba t),.slice (some ⟨S,0,none⟩) n cap] w fun e w'=>e=.returned (.int .i64 0)∧Gn.Fr [P] w w'∧w'.heap[P]?=some (.cells (updN cs o v n) 25 (0,0)):=by
 have hSp:=Any.strings_Split Gn.nu_lays146 (by kernel_rfl) (Gn.ba t) ⟨#[32]⟩ m w (by rw[Gn.ba_size];omega) hm (by decide);rw[hc,hsp] at hSp;have HSp:Hid (Calls Tryz.prog 143 #[.string (Gn.ba t),.string ⟨#[32]⟩] w fun e w'=>e=.returned (.slice (some ⟨w.heap.size,0,none⟩) n n)∧w'=w.alloc (.cells ((ts.map Gn.ba).map Value.string).toArray 9)):=hSp;have hPl:=lt_of_heap hP;have HP:=hideIt hP;have HS:=hideIt hS;have HW:=hideIt hw;have HV:=hideIt (And.intro hv (And.intro hp hPg));have HNum:=hideIt (fun (t:Gn.Bt) Z (ht:t.length≤3000) (hv:Gn.ErrV Z) (hp:Gn.PowT Z)=>Gn.number_dany t Z ht hv hp);have HB:=hideIt isBudget_any;have hrow:∀j (h:j < ts.length),(w.alloc (.cells ((ts.map Gn.ba).map Value.string).toArray 9)).cell? ⟨w.heap.size,j,none⟩=some (.string (Gn.ba ts[j])):=fun j h=>by
  rw[cell_of_row _ _ _ _ 9 _ (heap_alloc_new w _)];simp[h]
 have hC:=cont_any ts (by omega) (fun j h=>(hw j h).2.1) w.heap.size ts.length (w.alloc (.cells ((ts.map Gn.ba).map Value.string).toArray 9)) hrow;rw[hn] at hC;have HC:=hideIt hC;have HR:=hideIt hrow;have HF0:Hid (Gn.Fr [] w (w.alloc (.cells ((ts.map Gn.ba).map Value.string).toArray 9))):=Gn.Fr.alloc _ _ _;have hPw:(w.alloc (.cells ((ts.map Gn.ba).map Value.string).toArray 9)).heap[P]?=some (.cells cs 25 (0,0)):=(Below.heap_alloc _ _ _ hPl).trans hP;have HPw:=hideIt hPw;have hsw:(w.alloc (.cells ((ts.map Gn.ba).map Value.string).toArray 9)).heap.size=w.heap.size+1:=World.size_alloc _ _;clear hSp hc hsp hP hS hw hv hp hm hPg hrow hC hPw ht;go_enter Tryz.func91,Tryz.ntmps91
 go_wp2_with fail
 refine HSp.out.mono ?_;rintro e w1 ⟨rfl,hw1⟩;rw[←hw1] at HC HR HF0 HPw hsw;clear hw1 HSp;have hnn:(((n:Nat):Int) != ((n:Nat):Int))=false:=by simp
 go_wp2_with fail
 refine HC.out.mono ?_;rintro e w2 ⟨rfl,rfl⟩;go_wp2
 go_loopw [23] (fun x wr=>∃k:Nat,k≤n∧x=.int .i64 k∧Gn.Fr [P] w wr∧wr.heap[P]?=some (.cells (updN cs o v k) 25 (0,0))∧(∀j (h:j < ts.length),wr.cell? ⟨w.heap.size,j,none⟩=some (.string (Gn.ba ts[j])))) (fun x _=>n - (intOf x).toNat)
 case atStart=>exact⟨0,Nat.zero_le _,rfl,HF0.out.more (by simp),HPw.out,HR.out⟩
 case round=>
  obtain⟨k,hk,rfl,hf,hPr,hrw⟩:=hrel;by_cases hkn:k < n
  ·have hkn':(k:Int) < (n:Int):=by omega
   have hkt:k < ts.length:=by omega
   have c0:=hrw k hkt;obtain⟨q1,q2,q3,q4⟩:=HW.out k hkt;have hNm:=HNum.out ts[k] wr q4 (HV.out.1.fr hf (by simp;exact HV.out.2.2.1) (by simp;exact HV.out.2.2.2.1)) (HV.out.2.1.fr hf (by simp;exact HV.out.2.2.2.2));rw[show Gn.numDV ts[k]=.tuple #[.int .i64 (v k),.bool true] by unfold Gn.numDV;rw[q1]] at hNm;have HNm:=hideIt hNm;have hB:=HB.out (v k);rw[q3] at hB;have HBk:=hideIt hB;have HF:=hideIt hf;have HPr:=hideIt hPr;have HRw:=hideIt hrw;have hRP:w.heap.size≠P:=by omega
   clear hNm hB hf hPr hrw q1 q2 q3 q4;generalize ts[k]=y at c0 HNm;go_wp2_with fail
   refine HNm.out.mono ?_;rintro e w3 ⟨rfl,hf3⟩;have hF3:=HF.out.trans (hf3.more (by simp));have hP3:w3.heap[P]?=some (.cells (updN cs o v k) 25 (0,0)):=(hf3.block P (lt_of_heap HPr.out) (by simp)).trans HPr.out;have hS3:w3.cell? ⟨S,k,none⟩=some (.pointer (some ⟨P,o k,none⟩)):=(World.cell?_of_block (a:=⟨S,k,none⟩) (hF3.block S (World.block_lt_of_cell? w _ (HS.out k hkn).1) (by simpa using hSP))).trans (HS.out k hkn).1;have hok:o k < (updN cs o v k).size:=by rw[updN_size];exact(HS.out k hkn).2
   obtain⟨u,hu⟩:∃u,w3.cell? ⟨P,o k,none⟩=some u:=⟨(updN cs o v k)[o k],by rw[cell_of_row _ _ _ _ 25 _ hP3];exact Array.getElem?_eq_getElem hok⟩;have hfz:w3.frozen? ⟨P,o k,none⟩=false:=frozen_of_row _ _ _ _ 25 hP3;have HF3:=hideIt hF3;have HP3:=hideIt hP3;have HRw3:Hid (∀j (h:j < ts.length),w3.cell? ⟨w.heap.size,j,none⟩=some (.string (Gn.ba ts[j]))):=fun j h=>(World.cell?_of_block (a:=⟨w.heap.size,j,none⟩) (hf3.block w.heap.size (World.block_lt_of_cell? wr _ (HRw.out j h)) (by simp))).trans (HRw.out j h)
   clear hF3 hP3 hf3 hok HNm c0;go_wp2_with fail
   refine(HBk.out _).mono ?_;rintro e w4 ⟨rfl,rfl⟩;go_wp2
   go_roundw
   case rel=>
    refine⟨k+1,by omega,by go_num,HF3.out.trans (Gn.Fr.set _ _ _ (by simp)),heap_setCell_same _ P (o k) _ 25 _ HP3.out,fun j h=>?_⟩;rw[World.cell?_setCell_other _ _ _ _ (fun e=>hRP (by injection e with e;exact e.symm))];exact HRw3.out j h
   case measure=>simp[intOf];omega
  ·obtain rfl:k=n:=by omega
   have HF:=hideIt hf;have HPr:=hideIt hPr;clear hf hPr hrw;go_wp2;go_ret;exact⟨rfl,HF.out,HPr.out⟩
open Go.RowKit Go.Shelf
structure TxW (w : World) (P : Nat) (m : Int) : Prop where
 ev:Gn.ErrV w
 pw:Gn.PowT w
 mx:w.cell? ⟨1,0,none⟩=some (.int .i64 m)
 g1:Gn.gRng≠P∧Gn.gSyn≠P∧Gn.gPow≠P
 one:1≠P
theorem TxW.fr {w w':World} {P:Nat} {m:Int} (h:TxW w P m) (hf:Gn.Fr [P] w w'):TxW w' P m:=
 ⟨h.ev.fr hf (by simp;exact h.g1.1) (by simp;exact h.g1.2.1),h.pw.fr hf (by simp;exact h.g1.2.2),(World.cell?_of_block (a:=⟨1,0,none⟩) (hf.block 1 (World.block_lt_of_cell? w _ h.mx) (by simp;exact h.one))).trans h.mx,h.g1,h.one⟩
set_option maxHeartbeats 4000000 in
theorem hear_nodes (t:Gn.Bt) (v:Int) (ht:t.length≤3000) (hc:Lib.countB (Gn.ba t) ⟨#[32]⟩=0) (hsp:Lib.splitB ⟨#[32]⟩ 0 0 (Gn.ba t)= [Gn.ba t]) (hw:Gn.numD t=some v∧t≠ []∧okBud v=true)
  (P:Nat) (cs:Array Value) (m:Int) (w:World) (hP:w.heap[P]?=some (.cells cs 25 (0,0))) (h8:cs.size=8) (hx:TxW w P m):
  Calls Tryz.prog 41 #[.pointer (some ⟨P,0,none⟩),.string ⟨#[110,111,100,101,115]⟩,.string (Gn.ba t)] w fun e w'=>e=.returned (.int .i64 0)∧Gn.Fr [P] w w'∧w'.heap[P]?=some (.cells (cs.setIfInBounds 0 (.int .i64 v)) 25 (0,0)):=by
 have hPl:=lt_of_heap hP;have hal:Gn.Fr [P] w (w.alloc (.cells #[.pointer (some ⟨P,0,none⟩)] 176)):=Gn.Fr.alloc _ _ _;have hx2:=hx.fr hal;have hN:=hearN t [t] 1 (fun _=>v) (fun _=>0) rfl (by decide) ht (by rw[hc]) (by rw[hc,hsp];rfl) (fun j h=>by
   have:j=0:=by simp at h;omega
   subst this;exact⟨hw.1,hw.2.1,hw.2.2,ht⟩) P w.heap.size 1 cs m (w.alloc (.cells #[.pointer (some ⟨P,0,none⟩)] 176)) ((Below.heap_alloc _ _ _ hPl).trans hP) (fun j hj=>by
   have:j=0:=by omega
   subst this;exact⟨by rw[cell_of_row _ _ _ _ 176 _ (heap_alloc_new w _)];rfl,by rw[h8];decide⟩) (by omega) hx2.ev hx2.pw hx2.mx hx2.g1
 have HN:=hideIt hN;have HAl:=hideIt hal;clear hN hal hx hx2 hP hw ht hc hsp;go_enter Tryz.func41,Tryz.ntmps41
 go_wp2_with fail
 refine HN.out.mono ?_;rintro e w1 ⟨rfl,hf,hh⟩;have HH:=hideIt hh;have HF:=hideIt (HAl.out.trans hf);clear hf hh HN;go_wp2;go_ret;exact⟨rfl,HF.out,HH.out⟩
set_option maxHeartbeats 4000000 in
theorem hear_clients (t:Gn.Bt) (v:Int) (ht:t.length≤3000) (hc:Lib.countB (Gn.ba t) ⟨#[32]⟩=0) (hsp:Lib.splitB ⟨#[32]⟩ 0 0 (Gn.ba t)= [Gn.ba t]) (hw:Gn.numD t=some v∧t≠ []∧okBud v=true)
  (P:Nat) (cs:Array Value) (m:Int) (w:World) (hP:w.heap[P]?=some (.cells cs 25 (0,0))) (h8:cs.size=8) (hx:TxW w P m):
  Calls Tryz.prog 41 #[.pointer (some ⟨P,0,none⟩),.string ⟨#[99,108,105,101,110,116,115]⟩,.string (Gn.ba t)] w fun e w'=>e=.returned (.int .i64 0)∧Gn.Fr [P] w w'∧w'.heap[P]?=some (.cells (cs.setIfInBounds 1 (.int .i64 v)) 25 (0,0)):=by
 have hPl:=lt_of_heap hP;have hal:Gn.Fr [P] w (w.alloc (.cells #[.pointer (some ⟨P,1,none⟩)] 176)):=Gn.Fr.alloc _ _ _;have hx2:=hx.fr hal;have hN:=hearN t [t] 1 (fun _=>v) (fun _=>1) rfl (by decide) ht (by rw[hc]) (by rw[hc,hsp];rfl) (fun j h=>by
   have:j=0:=by simp at h;omega
   subst this;exact⟨hw.1,hw.2.1,hw.2.2,ht⟩) P w.heap.size 1 cs m (w.alloc (.cells #[.pointer (some ⟨P,1,none⟩)] 176)) ((Below.heap_alloc _ _ _ hPl).trans hP) (fun j hj=>by
   have:j=0:=by omega
   subst this;exact⟨by rw[cell_of_row _ _ _ _ 176 _ (heap_alloc_new w _)];rfl,by rw[h8];decide⟩) (by omega) hx2.ev hx2.pw hx2.mx hx2.g1
 have HN:=hideIt hN;have HAl:=hideIt hal;clear hN hal hx hx2 hP hw ht hc hsp;go_enter Tryz.func41,Tryz.ntmps41
 go_wp2_with fail
 refine HN.out.mono ?_;rintro e w1 ⟨rfl,hf,hh⟩;have HH:=hideIt hh;have HF:=hideIt (HAl.out.trans hf);clear hf hh HN;go_wp2;go_ret;exact⟨rfl,HF.out,HH.out⟩
set_option maxHeartbeats 4000000 in
theorem hear_quorum (t t1 t2:Gn.Bt) (v1 v2:Int) (ht:t.length≤3000∧t1.length≤3000∧t2.length≤3000) (hc:Lib.countB (Gn.ba t) ⟨#[32]⟩=1) (hsp:Lib.splitB ⟨#[32]⟩ 0 1 (Gn.ba t)= [Gn.ba t1,Gn.ba t2]) (hw:(Gn.numD t1=some v1∧t1≠ []∧okBud v1=true)∧(Gn.numD t2=some v2∧t2≠ []∧okBud v2=true))
  (P:Nat) (cs:Array Value) (m:Int) (w:World) (hP:w.heap[P]?=some (.cells cs 25 (0,0))) (h8:cs.size=8) (hx:TxW w P m):
  Calls Tryz.prog 41 #[.pointer (some ⟨P,0,none⟩),.string ⟨#[113,117,111,114,117,109]⟩,.string (Gn.ba t)] w fun e w'=>e=.returned (.int .i64 0)∧Gn.Fr [P] w w'∧w'.heap[P]?=some (.cells ((cs.setIfInBounds 2 (.int .i64 v1)).setIfInBounds 3 (.int .i64 v2)) 25 (0,0)):=by
 have hPl:=lt_of_heap hP;have hal:Gn.Fr [P] w (w.drew.alloc (.cells #[.pointer (some ⟨P,2,none⟩),.pointer (some ⟨P,3,none⟩)] 176)):=(Gn.Fr.drewN [P] w 1).trans (Gn.Fr.alloc _ _ _);have hx2:=hx.fr hal;have hnew:(w.drew.alloc (.cells #[.pointer (some ⟨P,2,none⟩),.pointer (some ⟨P,3,none⟩)] 176)).heap[w.heap.size]?=some (.cells #[.pointer (some ⟨P,2,none⟩),.pointer (some ⟨P,3,none⟩)] 176 (0,0)):=heap_alloc_new w.drew _;have hN:=hearN t [t1,t2] 2 (fun j=>if j=0 then v1 else v2) (fun j=>if j=0 then 2 else 3) rfl (by decide) ht.1 (by rw[hc]) (by rw[hc,hsp];rfl) (fun j h=>by
   have:j=0∨j=1:=by simp at h;omega
   rcases this with rfl | rfl
   ·exact⟨hw.1.1,hw.1.2.1,hw.1.2.2,ht.2.1⟩
   ·exact⟨hw.2.1,hw.2.2.1,hw.2.2.2,ht.2.2⟩) P w.heap.size 2 cs m (w.drew.alloc (.cells #[.pointer (some ⟨P,2,none⟩),.pointer (some ⟨P,3,none⟩)] 176)) ((Below.heap_alloc _ _ _ hPl).trans hP) (fun j hj=>by
   have:j=0∨j=1:=by omega
   rcases this with rfl | rfl
   ·exact⟨by rw[cell_of_row _ _ _ _ 176 _ hnew];rfl,by rw[h8];decide⟩
   ·exact⟨by rw[cell_of_row _ _ _ _ 176 _ hnew];rfl,by rw[h8];decide⟩) (by omega) hx2.ev hx2.pw hx2.mx hx2.g1
 have HN:=hideIt hN;have HAl:=hideIt hal;clear hN hal hx hx2 hP hw ht hc hsp hnew;go_enter Tryz.func41,Tryz.ntmps41
 go_upto_region 18 with fail
 refine wp_region_held_drew (S:=fun _=>True) (by kernel_rfl) trivial (fun hHeld=>?_);refine tkH 0 ?_ rfl ?_ ?_;rotate_left 1
 ·intro wz hwz;go_simp;all_goals with_reducible rfl
 simp only[Act.put,p1,p2,p3,p4,p5];refine tkH 1 ?_ rfl ?_ ?_;rotate_left 1
 ·intro wz hwz;go_simp;all_goals with_reducible rfl
 simp only[Act.put,p1,p2,p3,p4,p5,p6];refine tkH 2 ?_ rfl ?_ ?_;rotate_left 1
 ·intro wz hwz;go_simp;all_goals with_reducible rfl
 simp only[Act.put,p1,p2,p3,p4,p5,p6];refine tkH 3 ?_ rfl ?_ ?_;rotate_left 1
 ·intro wz hwz;go_simp;all_goals with_reducible rfl
 simp only[Act.put,p1,p2,p3,p4,p5,p6];refine tkH 4 ?_ rfl ?_ ?_;rotate_left 1
 ·intro wz hwz;go_simp;all_goals with_reducible rfl
 simp only[Act.put,p1,p2,p3,p4,p5,p6];refine tkH 5 ?_ rfl ?_ ?_;rotate_left 1
 ·intro wz hwz;go_simp;all_goals with_reducible rfl
 simp only[Act.put,p1,p2,p3,p4,p5,p6];refine tkH 6 ?_ rfl ?_ ?_;rotate_left 1
 ·intro wz hwz;go_simp;all_goals with_reducible rfl
 simp only[Act.put,p1,p2,p3,p4,p5,p6];refine tkH 7 ?_ rfl ?_ ?_;rotate_left 1
 ·intro wz hwz;go_simp;all_goals with_reducible rfl
 simp only[Act.put,p1,p2,p3,p4,p5,p6];refine tkH 8 ?_ rfl ?_ ?_;rotate_left 1
 ·intro wz hwz;go_simp;all_goals with_reducible rfl
 simp only[Act.put,p1,p2,p3,p4,p5,p6];refine wpAnyH_ready (rs:= [9]) (by kernel_rfl) (by simp) (AllReadyH.cons rfl (fun K9 hK=>?_) AllReadyH.nil);go_simp;refine hK.out _ _ trivial (fun hHeld=>?_);clear hK K9;refine wpAnyH_ready (rs:= [10]) (by kernel_rfl) (by simp) (AllReadyH.cons rfl (fun K9 hK=>?_) AllReadyH.nil);go_simp;refine HN.out.mono ?_;rintro e w1 ⟨rfl,hf,hh⟩;have HH:=hideIt hh;have HF:=hideIt (HAl.out.trans hf);clear hf hh HN;refine hK.out _ _ trivial (fun hHeld=>?_);clear hK K9;refine tkH 11 ?_ rfl ?_ ?_;rotate_left 1
 ·intro wz hwz;go_simp;all_goals with_reducible rfl
 simp only[Act.put,p1,p2,p3,p4,p5,p6];refine wpAnyH_done (by kernel_rfl) ?_ _;go_wp2;go_ret;exact⟨rfl,HF.out,HH.out⟩
theorem tell_nil (w:World):Calls Tryz.prog 90 #[.nilIface] w fun e w'=>e=.returned (.int .i64 0)∧Below w.heap.size w w':=by
 go_enter Tryz.func90,Tryz.ntmps90
 go_wp2;go_ret;exact⟨rfl,Below.refl _ _⟩
set_option maxHeartbeats 4000000 in
theorem hear_gen (t:Gn.Bt) (g:Gn.Gt) (hg:Gn.parseF t=some g) (P:Nat) (cs:Array Value) (m:Int) (w:World) (hP:w.heap[P]?=some (.cells cs 25 (0,0))) (h8:cs.size=8) (hx:TxW w P m):
  Calls Tryz.prog 41 #[.pointer (some ⟨P,0,none⟩),.string ⟨#[103,101,110]⟩,.string (Gn.ba t)] w fun e w'=>e=.returned (.int .i64 0)∧Gn.Fr [P] w w'∧w'.heap[P]?=some (.cells (cs.setIfInBounds 6 (.string (Gn.ba t))) 25 (0,0)):=by
 have hs:Gn.Fr [P] w (w.setCell ⟨P,6,none⟩ (.string (Gn.ba t))):=Gn.Fr.set _ _ _ (by simp);have hP2:=heap_setCell_same w P 6 cs 25 (.string (Gn.ba t)) hP;have HPs:=hideIt (Gn.parse_any t (w.setCell ⟨P,6,none⟩ (.string (Gn.ba t))) (hx.fr hs).ev);have HS:=hideIt hs;have HP2:=hideIt hP2;have HGn:=hideIt hg;obtain⟨u,hu⟩:∃u,w.cell? ⟨P,6,none⟩=some u:=⟨cs[6],by rw[cell_of_row _ _ _ _ 25 _ hP];exact Array.getElem?_eq_getElem (by omega)⟩;have hfz:w.frozen? ⟨P,6,none⟩=false:=frozen_of_row _ _ _ _ 25 hP;clear hs hP2 hP hx hg;go_enter Tryz.func41,Tryz.ntmps41
 go_wp2_with fail
 refine HPs.out.mono ?_;rintro e w1 hps;rcases hps with ⟨g2,v,bs,_,rfl,hg2,_,hfr⟩ | ⟨hno,_⟩
 ·obtain⟨Ty,x,F,hM⟩:=Gn.met_of hg2;have hsh:=hM.shape;subst hsh;have HF:=hideIt (HS.out.trans (hfr.more (by simp)));have HP3:=hideIt ((hfr.block P (lt_of_heap HP2.out) (by simp)).trans HP2.out);have HT:=hideIt (tell_nil w1);clear hM hg2 hfr HPs;go_wp2_with fail
  refine HT.out.mono ?_;rintro e w2 ⟨rfl,hb⟩;have HF2:=hideIt (HF.out.trans (Gn.fr_below hb [P]));have HP4:=hideIt ((hb.block P (lt_of_heap HP3.out)).trans HP3.out);clear hb HT;go_wp2;go_ret;exact⟨rfl,HF2.out,HP4.out⟩
 ·rw[HGn.out] at hno;cases hno
open Go.RowKit Go.Lib Go.Shelf
attribute [local go_sem] Oper.semAt_some
def textB (l:List (List UInt8)):List UInt8:=l.flatMap fun e=>e++ [10]
theorem index_line:∀(l r:List UInt8),(∀c∈l,c.toNat≠10)→Lib.index (l++10::r) [10]=l.length
 | [],r,_=>by simp[Lib.index,List.isPrefixOf]
 | c::l,r,h=>by
  have hc:(10==c)=false:=by
   have:=h c (by simp);rw[beq_eq_false_iff_ne];intro e;exact this (by rw[←e];rfl)
  rw[List.cons_append,Lib.index,index_line l r (fun x hx=>h x (by simp[hx]))];simp[List.isPrefixOf,hc]
theorem cut_line (l r:List UInt8) (h:∀c∈l,c.toNat≠10):Lib.cut (l++10::r) [10]=(l,r,true):=by
 unfold Lib.cut;rw[index_line l r h,if_pos (by omega)];simp
theorem cut_none:Lib.cut [] [10]=([],[],false):=rfl
theorem textB_succ (l:List (List UInt8)) (k:Nat) (h:k < l.length):textB (l.take (k+1))=textB (l.take k)++(l[k]++ [10]):=by
 unfold textB;rw[List.take_succ_eq_append_getElem h,List.flatMap_append];simp
def placeAt (l:List (List UInt8)) (k:Nat):Nat:=(textB (l.take k)).length
def lineAt (l:List (List UInt8)) (k:Nat):List UInt8:=match l[k]? with | some e=>e | none=> []
theorem textB_split (l:List (List UInt8)) (k:Nat):textB l=textB (l.take k)++textB (l.drop k):=by
 unfold textB;rw[←List.flatMap_append,List.take_append_drop]
theorem drop_place (l:List (List UInt8)) (k:Nat):(textB l).drop (placeAt l k)=textB (l.drop k):=by
 unfold placeAt
 conv=>lhs;rw[textB_split l k]
 simp
theorem textB_drop (l:List (List UInt8)) (k:Nat) (h:k < l.length):textB (l.drop k)=l[k]++10::textB (l.drop (k+1)):=by
 rw[List.drop_eq_getElem_cons h];simp only[textB,List.flatMap_cons,List.append_assoc,List.singleton_append]
theorem cut_at (l:List (List UInt8)) (k:Nat) (hl:∀e∈l,∀c∈e,c.toNat≠10) (h:k < l.length):Lib.cut (textB (l.drop k)) [10]=(lineAt l k,textB (l.drop (k+1)),true):=by
 rw[textB_drop l k h,cut_line _ _ (hl _ (List.getElem_mem h)),lineAt,List.getElem?_eq_getElem h]
theorem place_succ (l:List (List UInt8)) (k:Nat):(textB l).length - (textB (l.drop (k+1))).length=placeAt l (k+1):=by
 unfold placeAt
 conv=>lhs;rw[textB_split l (k+1)]
 simp
theorem textB_len_drop (l:List (List UInt8)) (k:Nat):(textB (l.drop k)).length≤(textB l).length:=by
 conv=>rhs;rw[textB_split l k]
 simp
theorem place_le (l:List (List UInt8)) (k:Nat):placeAt l k≤(textB l).length:=by
 unfold placeAt
 conv=>rhs;rw[textB_split l k]
 simp
theorem cut_end (l:List (List UInt8)) (k:Nat) (h:¬k < l.length):Lib.cut (textB (l.drop k)) [10]=(lineAt l k,textB (l.drop (k+1)),false):=by
 rw[List.drop_eq_nil_of_le (by omega),List.drop_eq_nil_of_le (by omega),lineAt,List.getElem?_eq_none (by omega)];exact cut_none
theorem extract_place (l:List (List UInt8)) (k:Nat):(({data:=(textB l).toArray} :ByteArray).extract (placeAt l k) (textB l).length).data.toList=textB (l.drop k):=by
 rw[←drop_place l k];have:List.take ((textB l).length - placeAt l k) (List.drop (placeAt l k) (textB l))=List.drop (placeAt l k) (textB l):=List.take_of_length_le (by simp)
 simpa [ByteArray.data_extract] using this
theorem range_pre (k n:Nat) (h:k≤n):List.range k <+:List.range n:=by
 have:List.range k=(List.range n).take k:=by rw[List.take_range,Nat.min_eq_left h]
 rw[this];exact List.take_prefix _ _
theorem cut_call (l:List (List UInt8)) (k:Nat) (hl:∀e∈l,∀c∈e,c.toNat≠10) (h120:(textB l).length≤100000) (m:Int) (w:World) (hm:w.cell? ⟨1,0,none⟩=some (.int .i64 m)):
  Calls Tryz.prog 40 #[.string (({data:=(textB l).toArray} :ByteArray).extract (placeAt l k) (textB l).length),.string ⟨#[10]⟩] w fun e w'=>e=.returned (.tuple #[.string ⟨(lineAt l k).toArray⟩,.string ⟨(textB (l.drop (k+1))).toArray⟩,.bool (decide (k < l.length))])∧∃n,w'=w.drewN n:=by
 have h1:=Any.strings_Cut Gn.nu_lays145 (({data:=(textB l).toArray} :ByteArray).extract (placeAt l k) (textB l).length) ⟨#[10]⟩ m w (by
  have h3:(({data:=(textB l).toArray} :ByteArray).extract (placeAt l k) (textB l).length).size≤(textB l).length:=by
   simp[ByteArray.size,ByteArray.data_extract]
  omega) hm
 rw[extract_place] at h1;by_cases h:k < l.length
 ·rw[show (⟨#[10]⟩:ByteArray).data.toList= [10] from rfl,cut_at l k hl h] at h1;rw[decide_eq_true h];exact h1
 ·rw[show (⟨#[10]⟩:ByteArray).data.toList= [10] from rfl,cut_end l k h] at h1;rw[decide_eq_false h];exact h1
abbrev Rd (l:List (List UInt8)):= {k:Nat // k≤l.length}
def encL (l:List (List UInt8)) (k:Rd l):Array Value:=#[.int .i64 (placeAt l k.1),.string ⟨(lineAt l k.1).toArray⟩]
theorem wrap_small {n:Int} (h0: -1000000≤n) (h1:n≤1000000):IntKind.i64.wrap n=n:=by
 rw[IntKind.wrap_i64];omega
theorem pre_snoc {l:List (List UInt8)} {pre:List (Rd l)} {k:Nat} (hk:k≤l.length) (h:pre.map (·.1)=List.range k):(pre++ [(⟨k,hk⟩:Rd l)]).map (fun x=>x.1)=List.range (k+1):=by
 rw[List.map_append,h,List.range_succ];rfl
theorem place_lt (l:List (List UInt8)) (k:Nat) (h:k < l.length):placeAt l k < placeAt l (k+1):=by
 unfold placeAt;rw[textB_succ l k h,List.length_append,List.length_append];simp
def KeptL (n₀ Bt:Nat) (W W':World):Prop:=Below n₀ W W'∧W'.heap[Bt]?=W.heap[Bt]?
set_option maxHeartbeats 4000000 in
theorem lines1_in (l:List (List UInt8)) (hl:∀e∈l,∀c∈e,c.toNat≠10) (h120:(textB l).length≤100000) (n:Nat) (hn:1≤n) (y Bt n₀:Nat) (m:Int) (J Jx:List (Rd l)→World→Prop) (W:World) (hb2:1 < n₀)
  (hY:∀pre x W1,J pre W1→pre.length < l.length+1→YieldAt Fence.wide (n - 1) Tryz.prog y (encL l x) W1 fun e W'=>
   (e=.returned (.bool true)∧J (pre++ [x]) W'∧KeptL n₀ Bt W1 W')∨(e=.returned (.bool false)∧Jx (pre++ [x]) W'))
  (hJ:AbidesFrom W.heap.size J) (hc:W.cell? ⟨Bt,0,none⟩=some (.string ⟨(textB l).toArray⟩)) (hm:W.cell? ⟨1,0,none⟩=some (.int .i64 m)) (h0:J [] W):
  CallsIn Fence.wide n Tryz.prog 88 #[.func (.yield y) #[] #[],.pointer (some ⟨Bt,0,none⟩)] W fun e W'=>(∃v,e=.returned v)∧
   ((∃xs,xs.map (·.1)=List.range (l.length+1)∧J xs W')∨(∃pre,pre.map (·.1) <+:List.range (l.length+1)∧Jx pre W')):=by
 have HL:=hideIt hl;have HY:=hideIt hY;have HJ:=hideIt hJ;clear hl hY hJ;refine callsIn_of_wp Tryz.func88 rfl trivial ?_ rfl;simp only[Tryz.ntmps88,List.size_toArray,List.length_cons,List.length_nil,Nat.reduceAdd,Nat.reduceSub,Array.replicate_succ,Array.replicate_zero,List.push_toArray,List.append_toArray,List.nil_append,List.cons_append]
 gi_wp2
 gi_loopw [3] (fun p wr=>∃(k:Nat) (pre:List (Rd l)),k≤l.length∧p=.int .i64 (placeAt l k)∧pre.map (·.1)=List.range k∧wr.cell? ⟨Bt,0,none⟩=some (.string ⟨(textB l).toArray⟩)∧wr.cell? ⟨1,0,none⟩=some (.int .i64 m)∧J pre wr∧W.heap.size≤wr.heap.size)
  (fun p _=>(textB l).length+1 - (intOf p).toNat)
 case atStart=>exact⟨0,[],Nat.zero_le _,rfl,rfl,hc,hm,h0,Nat.le_refl _⟩
 case round=>
  obtain⟨k,pre,hk,rfl,hpre,hct,hmt,hJs,hsz⟩:=hrel;have HPR:=hideIt hpre;have HJS:=hideIt hJs;have hplen:pre.length=k:=by have:=congrArg List.length hpre;simpa using this
  clear hJs hpre;have hp1:(placeAt l k:Int)≤((textB l).length:Int):=by have:=place_le l k;omega
  gi_wp2
  refine⟨trivial,?_⟩;refine(callsIn_wide.2 (cut_call l k HL.out h120 m wr hmt)).mono ?_;rintro e w2 ⟨rfl,q,rfl⟩;have HJ2:=hideIt (HJ.out pre wr (wr.drewN q) none HJS.out ⟨rfl,rfl,rfl,Nat.le_refl _,fun _ _ _=>rfl⟩ (fun r e=>by cases e));obtain⟨fn,tmps,assign,body,hy,hR⟩:=HY.out pre ⟨k,hk⟩ (wr.drewN q) HJ2.out (by omega);dsimp only[encL] at hy;have HR:=hideIt hR;clear hR;by_cases hlt:k < l.length
  ·simp only[decide_eq_true hlt]
   gi_wp2
   refine HR.out.mono ?_;rintro e W3 (⟨rfl,hJ3,hk3⟩ | ⟨rfl,hJx3⟩)
   ·have hct3:W3.cell? ⟨Bt,0,none⟩=some (.string ⟨(textB l).toArray⟩):=(World.cell?_of_block (a:=⟨Bt,0,none⟩) hk3.2).trans hct;have hmt3:W3.cell? ⟨1,0,none⟩=some (.int .i64 m):=(hk3.1.cell (p:=⟨1,0,none⟩) hb2).trans hmt;have HJ3:=hideIt hJ3;have hsz3:W.heap.size≤W3.heap.size:=Nat.le_trans hsz hk3.1.size;have hps:=place_succ l k;have hpl:=textB_len_drop l (k+1);have htl:=h120;have hpw:IntKind.i64.wrap (((textB l).length:Int) - ((textB (l.drop (k+1))).length:Int))=(placeAt l (k+1):Int):=by
     rw[←hps];have:((((textB l).length - (textB (l.drop (k+1))).length:Nat)):Int)=((textB l).length:Int) - ((textB (l.drop (k+1))).length:Int):=by omega
     rw[this];exact wrap_small (by omega) (by omega)
    clear hJ3 hk3
    gi_wp2
    have hlt2:=place_lt l k hlt;have hle2:=place_le l (k+1);exact⟨⟨k+1,pre++ [⟨k,hk⟩],by omega,rfl,pre_snoc hk HPR.out,hct3,hmt3,HJ3.out,hsz3⟩,by simp[intOf];omega⟩
   ·gi_wp2
    refine bodyPost_ret (results_none rfl _ _ _) rfl ?_;exact⟨⟨_,rfl⟩,.inr ⟨pre++ [⟨k,hk⟩],by rw[pre_snoc hk HPR.out];exact range_pre _ _ (by omega),hJx3⟩⟩
  ·simp only[decide_eq_false hlt]
   gi_wp2
   refine HR.out.mono ?_;rintro e W3 (⟨rfl,hJ3,hk3⟩ | ⟨rfl,hJx3⟩)
   ·gi_wp2
    refine bodyPost_ret (results_none rfl _ _ _) rfl ?_;exact⟨⟨_,rfl⟩,.inl ⟨pre++ [⟨k,hk⟩],(pre_snoc hk HPR.out).trans (congrArg List.range (by omega)),hJ3⟩⟩
   ·gi_wp2
    refine bodyPost_ret (results_none rfl _ _ _) rfl ?_;exact⟨⟨_,rfl⟩,.inr ⟨pre++ [⟨k,hk⟩],by rw[pre_snoc hk HPR.out];exact range_pre _ _ (by omega),hJx3⟩⟩
theorem lines_stops (l:List (List UInt8)) (hl:∀e∈l,∀c∈e,c.toNat≠10) (h120:(textB l).length≤100000) (n:Nat) (hn:1≤n) (Bt n₀:Nat) (m:Int) (w:World) (hb2:1 < n₀) (_hn₀:n₀≤w.heap.size)
  (hc:w.cell? ⟨Bt,0,none⟩=some (.string ⟨(textB l).toArray⟩)) (hBw:Bt < w.heap.size) (hm:w.cell? ⟨1,0,none⟩=some (.int .i64 m)):
  SeqStopsK Fence.wide n Tryz.prog 88 #[.pointer (some ⟨Bt,0,none⟩)] (encL l) (KeptL n₀ Bt) (fun xs=>xs.map (fun x=>x.1)=List.range (l.length+1)) (fun pre=>pre.map (fun x=>x.1) <+:List.range (l.length+1)) (l.length+1) w:=
 fun y J Jx W hW hJ _ hY h0=>lines1_in l hl h120 n hn y Bt n₀ m J Jx W hb2 hY hJ ((hW.cell (p:=⟨Bt,0,none⟩) hBw).trans hc) ((hW.cell (p:=⟨1,0,none⟩) (by show 1 < w.heap.size;omega)).trans hm) h0
theorem keptL_t {n₀ Bt:Nat} {A B C:World} (h:KeptL n₀ Bt A B) (k:KeptL n₀ Bt B C):KeptL n₀ Bt A C:=⟨h.1.trans k.1,k.2.trans h.2⟩
theorem keptL_b {n₀ Bt:Nat} {w:World} (hn:n₀≤w.heap.size) (hB:Bt < w.heap.size) (W:World) (l:Nat) (o o':Obj) (hl:w.heap.size≤l) (h:W.heap[l]?=some o) (h1:o.isCells=false) (h2:o.isWalk=false):KeptL n₀ Bt W (W.putObj l o'):=
 ⟨belowK_b hn W l o o' hl h h1 h2,World.putObj_heap_other (by omega)⟩
theorem lines_call (s:ByteArray) (w:World):Calls Tryz.prog 39 #[.string s] w fun e w'=>e=.returned (.func (.func 88) #[] #[.pointer (some ⟨w.heap.size,0,none⟩)])∧w'=w.alloc (.cells #[.string s] 9):=by
 go_enter Tryz.func39,Tryz.ntmps39
 go_wp2;go_ret;exact⟨rfl,rfl⟩
open Go.RowKit
open Go.Maps (Keyed IsMap)
theorem zeroU (w:World):(zeroValue 99).run Tryz.prog w=.ok (.agg #[]) w:=by kernel_rfl
def SetU (w:World) (M:Nat) (ent:List (List UInt8)):Prop:=
 ∃D:DataW Unit,w.ownsMap Tryz.prog 9 unitElem M ent.length D∧(∀l,Maps.has D (.string l)=ent.contains l)∧Maps.size D=ent.length
theorem SetU.same {w w':World} {M:Nat} {ent:List (List UInt8)} (h:SetU w M ent) (hs:w'.heap[M]?=w.heap[M]?):SetU w' M ent:=by
 obtain⟨D,⟨es,clock,hb,h1⟩,h2⟩:=h;exact⟨D,⟨es,clock,hs.trans hb,h1⟩,h2⟩
theorem SetU.isMap {w:World} {M:Nat} {ent:List (List UInt8)} (h:SetU w M ent):∃es clock,w.heap[M]?=some (.map es clock):=by
 obtain⟨D,⟨es,clock,hb,_⟩,_⟩:=h;exact⟨es,clock,hb⟩
theorem setU_made (w:World):SetU (w.alloc (.map #[] 0)) w.heap.size []:=
 ⟨_,World.ownsMap_made w Tryz.prog 9 _,fun _=>rfl,rfl⟩
theorem SetU.look {w:World} {M:Nat} {ent:List (List UInt8)} (h:SetU w M ent) (l:List UInt8) (hl:l.length≤100000):
  (Instr.lookup 92 (.map (some M)) (strV l) true).run Tryz.prog w=.ok (.tuple #[.agg #[],.bool (ent.contains l)]) w:=by
 obtain⟨D,h1,h2,_⟩:=h;obtain⟨v,ps,hrun,hv⟩:=h1.look_ok keyedS Tryz.underlying92 (zeroU w) unitElem_mk (keyS l hl);obtain⟨rfl,_⟩:=unitElem_inv hv;rw[h2] at hrun;exact hrun
theorem SetU.store {w:World} {M:Nat} {ent:List (List UInt8)} (h:SetU w M ent) (hn:ent.length < 2000000) (l:List UInt8) (hl:l.length≤100000) (hnew:ent.contains l=false):
  ∃w',(Instr.mapUpdate 92 (.map (some M)) (strV l) (.agg #[])).run Tryz.prog w=.ok () w'∧SetU w' M (l::ent)∧w.grownBy w' (some M):=by
 obtain⟨D,h1,h2,h3⟩:=h;obtain⟨w',hrun,ho,ht⟩:=h1.store keyedS Tryz.underlying92 (by unfold maxLen;omega) (keyS l hl) unitElem_mk;refine⟨w',hrun,⟨_,ho,fun m=>?_,?_⟩,ht.grown⟩
 ·by_cases e:m=l
  ·subst e;rw[Maps.has_put_same h1.isMap (isKeyS m)];simp
  ·have hne:(Lit.string m)≠.string l:=fun k=>e (by simpa using k)
   rw[Maps.has_put_other hne,h2 m,List.contains_cons];simp[e]
 ·rw[Maps.size_put (h1.tidy keyedS),h2 l,hnew,h3];rfl
end Go.Proofs.YtjpklmighoondaaGreatDoor.Fa
