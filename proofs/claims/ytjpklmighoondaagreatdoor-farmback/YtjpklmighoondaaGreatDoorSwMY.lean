/-
  The program's store, walked: nodeOf, Events, Stamps.
  The program's store, walked: Check, nodeOf.
  The program's store: what each move keeps (plain).
  The program's store: what each move keeps (plain): rounds, Begin, Deliver.
  The program's store: what Deliver keeps (plain).
  Package net's Whole, Halves, Bridge, Ring, Alone, and plain.Links, walked.
  Chapter 17: the program's own way against the document's: what is delivered; all moves (plain).
  Chapter 17: what is seen of the program's store (plain).
  What is seen of a store whose quorums meet, and whose readers tell, can have taken place one by one (plain).
  How a text is read as a generator: what is read gets shorter.
-/
import Derived.Test.YtjpklmighoondaaGreatDoorSwLY
import Derived.Test.YtjpklmighoondaaGreatDoorEvpY
import Derived.Shelf.Abstract
import Derived.Test.YtjpklmighoondaaGreatDoorPlainHY
import Derived.Test.YtjpklmighoondaaGreatDoorPlainRY
import Derived.Test.YtjpklmighoondaaGreatDoorJudgeWY
import Derived.Test.YtjpklmighoondaaGreatDoorGnHY
set_option maxRecDepth 100000
namespace Go.Proofs.YtjpklmighoondaaGreatDoor.St
open Go.RowKit
theorem nilEqE (w:World):(binOp .eql 32 (.slice none 0 0) (.slice none 0 0)).run Tryz.prog w=.ok (.bool true) w:=by kernel_rfl
theorem nilNeE (w:World) (a:Addr) (n c:Nat):(binOp .eql 32 (.slice (some a) n c) (.slice none 0 0)).run Tryz.prog w=.ok (.bool false) w:=by kernel_rfl
theorem evCs_ones {L:List Evp} {u:Value} (h:u∈evCs L):u.oneCell'=true:=by
 obtain⟨e,_,he⟩:=List.mem_flatMap.1 h;simp[evC] at he;rcases he with rfl | rfl | rfl | rfl | rfl | rfl | rfl<;>rfl
set_option maxHeartbeats 1000000 in
theorem cloneE_any (L:List Evp) (hL:L.length≤9000) (base:Nat) (v:Value) (w:World) (h:w.ownsRow base 54 7 v L.length (evCs L)):
  Calls Tryz.prog 117 #[v] w fun e w'=>∃v',e=.returned v'∧w'.ownsRow w.heap.size 54 7 v' L.length (evCs L)∧Below w.heap.size w w':=by
 have hlen:=h.1;rcases own_cells h with ⟨rfl,h0⟩ | ⟨g,cap,rfl,hcap,hg0,hc⟩
 ·have hn:=nilEqE w;have HO:Hid (w.ownsRow w.heap.size 54 7 (.slice none 0 0) L.length (evCs L)):=⟨hlen,.inl ⟨rfl,h0⟩⟩;clear h h0 hlen;go_enter Tryz.func117,Tryz.ntmps117
  go_wp2;go_ret;exact⟨_,rfl,HO.out,Below.refl _ _⟩
 have hn:=nilNeE w ⟨g,0,none⟩ L.length cap;obtain⟨i,hi,hz,hsz,hby⟩:=info_parts' infoEv;have HB0:Hid (Below w.heap.size w (w.alloc (.cells #[] 54))):=belA (Below.refl _ _) _;have hown:(w.alloc (.cells #[] 54)).ownsRow w.heap.size 54 7 (.slice (some ⟨w.heap.size,0,none⟩) 0 0) 0 []:=⟨rfl,.inr ⟨w.heap.size,0,#[],rfl,Nat.le_refl _,heap_alloc_new w _,Nat.le_refl _,by unfold maxLen;omega,rfl,rfl⟩⟩;obtain⟨v',w',hr,ho,hg,_,hob⟩:=run_append_own_at (P:=Tryz.prog) (w:=w.alloc (.cells #[] 54)) w.heap.size 32 32 54 i _ 7 56 Tryz.underlying32 hi hz hsz hby rfl (by decide) (.slice (some ⟨w.heap.size,0,none⟩) 0 0) 0 [] hown ⟨g,0,none⟩ L.length cap (evCs L) hlen (fun j u hj=>by
   rw[Addr.add_lit,Nat.zero_add];have hj':j < L.length*7:=by have:=(List.getElem?_eq_some_iff.1 hj).1;omega
   refine(HB0.out.cell (p:=⟨g,j,none⟩) hg0).trans ?_;rw[hc j hj',hj]) (fun u hu=>evCs_ones hu) (by unfold maxLen;omega) (by omega) (by simp)
 have HO:Hid (w'.ownsRow w.heap.size 54 7 v' L.length (evCs L)):=by
  show w'.ownsRow _ _ _ _ _ _;rw[Nat.zero_add] at ho;exact ho
 have HB:Hid (Below w.heap.size w w'):=HB0.out.grown hg (by simp) fun b hb=>by simp[Value.ownBlock] at hb;omega
 have hzero:(IntKind.i64.wrap 0)=0:=rfl;clear hc ho hg hob hown HB0 h hlen;go_enter Tryz.func117,Tryz.ntmps117
 go_wp2_with (at_builtin;refine wpList_append_run _ rfl _ _ 32 rfl _ _ _ w' rfl rfl hr ?_)
 go_ret;exact⟨_,rfl,HO.out,HB.out⟩
section
variable {w0 W W' : World} {K : StK} {P : Pst}
set_option maxHeartbeats 1000000 in
theorem events_any (h:StoP w0 W K P) (hl:P.evs.length≤9000):Calls Tryz.prog 57 #[.pointer (some ⟨K.B,0,none⟩)] W fun e w'=>∃v',e=.returned v'∧w'.ownsRow W.heap.size 54 7 v' P.evs.length (evCs P.evs)∧Below W.heap.size W w':=by
 have c9:=h.cells.2.2.2.2.2.1;have HC:=hideIt (cloneE_any P.evs hl _ _ _ h.ev);obtain⟨a,c,e0⟩:=ownsRow_slice h.ev;rw[e0] at c9 HC;clear h e0;go_enter Tryz.func57,Tryz.ntmps57
 go_wp2_with fail
 refine HC.out.mono ?_;rintro e w1 ⟨v',rfl,ho,hb⟩;have HO:=hideIt ho;have HB:=hideIt hb;clear ho hb HC;go_wp2;go_ret;exact⟨_,rfl,HO.out,HB.out⟩
end
end Go.Proofs.YtjpklmighoondaaGreatDoor.St
namespace Go.Proofs.YtjpklmighoondaaGreatDoor.St
open Go.RowKit
def checkC (n k ask tell:Int):Int:=if n < 1∨7 < n∨k < 1∨8 < k then 4 else if ask < 1∨n < ask∨tell < 1∨n < tell then 2 else 0
set_option maxHeartbeats 4000000 in
theorem check_any (n k ask tell:Int) (back:Bool) (w:World):Calls Tryz.prog 7 #[.agg #[.int .i64 n,.int .i64 k,.int .i64 ask,.int .i64 tell,.bool back]] w fun e w'=>e=.returned (toldE (checkC n k ask tell))∧Below w.heap.size w w':=by
 by_cases h0:n < 1
 ·have d0:decide (n < 1)=true:=decide_eq_true h0;have HR:Hid (toldE (checkC n k ask tell)=.iface 55 (.int .i64 4)):=by
   show _=_;unfold checkC;rw[if_pos (by omega)];rfl
  clear h0;go_enter Tryz.func7,Tryz.ntmps7
  go_wp2;go_ret;exact⟨by rw[HR.out];rfl,belA (Below.refl _ _) _⟩
 have d0:decide (n < 1)=false:=decide_eq_false h0;by_cases h1:7 < n
 ·have d1:decide (n > 7)=true:=decide_eq_true h1;have HR:Hid (toldE (checkC n k ask tell)=.iface 55 (.int .i64 4)):=by
   show _=_;unfold checkC;rw[if_pos (by omega)];rfl
  clear h0 h1;go_enter Tryz.func7,Tryz.ntmps7
  go_wp2;go_ret;exact⟨by rw[HR.out];rfl,belA (Below.refl _ _) _⟩
 have d1:decide (n > 7)=false:=decide_eq_false h1;by_cases h2:k < 1
 ·have d2:decide (k < 1)=true:=decide_eq_true h2;have HR:Hid (toldE (checkC n k ask tell)=.iface 55 (.int .i64 4)):=by
   show _=_;unfold checkC;rw[if_pos (by omega)];rfl
  clear h0 h1 h2;go_enter Tryz.func7,Tryz.ntmps7
  go_wp2;go_ret;exact⟨by rw[HR.out];rfl,belA (Below.refl _ _) _⟩
 have d2:decide (k < 1)=false:=decide_eq_false h2;by_cases h3:8 < k
 ·have d3:decide (k > 8)=true:=decide_eq_true h3;have HR:Hid (toldE (checkC n k ask tell)=.iface 55 (.int .i64 4)):=by
   show _=_;unfold checkC;rw[if_pos (by omega)];rfl
  clear h0 h1 h2 h3;go_enter Tryz.func7,Tryz.ntmps7
  go_wp2;go_ret;exact⟨by rw[HR.out];rfl,belA (Below.refl _ _) _⟩
 have d3:decide (k > 8)=false:=decide_eq_false h3;by_cases h4:ask < 1
 ·have d4:decide (ask < 1)=true:=decide_eq_true h4;have HR:Hid (toldE (checkC n k ask tell)=.iface 55 (.int .i64 2)):=by
   show _=_;unfold checkC;rw[if_neg (by omega),if_pos (by omega)];rfl
  clear h0 h1 h2 h3 h4;go_enter Tryz.func7,Tryz.ntmps7
  go_wp2;go_ret;exact⟨by rw[HR.out];rfl,belA (Below.refl _ _) _⟩
 have d4:decide (ask < 1)=false:=decide_eq_false h4;by_cases h5:n < ask
 ·have d5:decide (ask > n)=true:=decide_eq_true h5;have HR:Hid (toldE (checkC n k ask tell)=.iface 55 (.int .i64 2)):=by
   show _=_;unfold checkC;rw[if_neg (by omega),if_pos (by omega)];rfl
  clear h0 h1 h2 h3 h4 h5;go_enter Tryz.func7,Tryz.ntmps7
  go_wp2;go_ret;exact⟨by rw[HR.out];rfl,belA (Below.refl _ _) _⟩
 have d5:decide (ask > n)=false:=decide_eq_false h5;by_cases h6:tell < 1
 ·have d6:decide (tell < 1)=true:=decide_eq_true h6;have HR:Hid (toldE (checkC n k ask tell)=.iface 55 (.int .i64 2)):=by
   show _=_;unfold checkC;rw[if_neg (by omega),if_pos (by omega)];rfl
  clear h0 h1 h2 h3 h4 h5 h6;go_enter Tryz.func7,Tryz.ntmps7
  go_wp2;go_ret;exact⟨by rw[HR.out];rfl,belA (Below.refl _ _) _⟩
 have d6:decide (tell < 1)=false:=decide_eq_false h6;by_cases h7:n < tell
 ·have d7:decide (tell > n)=true:=decide_eq_true h7;have HR:Hid (toldE (checkC n k ask tell)=.iface 55 (.int .i64 2)):=by
   show _=_;unfold checkC;rw[if_neg (by omega),if_pos (by omega)];rfl
  clear h0 h1 h2 h3 h4 h5 h6 h7;go_enter Tryz.func7,Tryz.ntmps7
  go_wp2;go_ret;exact⟨by rw[HR.out];rfl,belA (Below.refl _ _) _⟩
 have d7:decide (tell > n)=false:=decide_eq_false h7;have HR:Hid (toldE (checkC n k ask tell)=.nilIface):=by
  show _=_;unfold checkC;rw[if_neg (by omega),if_neg (by omega)];rfl
 clear h0 h1 h2 h3 h4 h5 h6 h7;go_enter Tryz.func7,Tryz.ntmps7
 go_wp2;go_ret;exact⟨by rw[HR.out];rfl,belA (Below.refl _ _) _⟩
section
variable {w0 W W' : World} {K : StK} {P : Pst}
theorem nodeOf_any (h:StoP w0 W K P) (hn:1≤P.n) (i:Nat):Calls Tryz.prog 169 #[.pointer (some ⟨K.B,0,none⟩),.int .i64 (i:Int)] W fun e w'=>e=.returned (.int .i64 ((i%P.n:Nat):Int))∧w'=W:=by
 have c0:=h.cells.1.1;have hne:((P.n:Int)==0)=false:=by simp;omega
 have hne2:¬(P.n:Int)=0:=by omega
 generalize P.n=n at*
 clear h;go_enter Tryz.func169,Tryz.ntmps169
 go_wp2;go_ret;exact⟨rfl,rfl⟩
end
end Go.Proofs.YtjpklmighoondaaGreatDoor.St
namespace Go.Proofs.YtjpklmighoondaaGreatDoor.St
open Go.RowKit
def MqOk (n k b:Nat) (m:Mq):Prop:=(0≤m.tt∧m.tt < (n:Int)+k)∧(0≤m.key∧m.key < 8)∧0≤m.t∧m.t≤b
def PclOk (b:Nat) (x:Pcl):Prop:=x.cnt.length≤b∧(0≤x.rd∧x.rd≤b)∧(0≤x.kept.s.t∧x.kept.s.t≤b)∧0≤x.call.k∧x.call.k < 8
def HdOk (b:Nat) (x:Hd):Prop:=0≤x.s.t∧x.s.t≤b
def FrOk (n k:Nat) (m:Mq):Prop:=0≤m.fr∧m.fr < (n:Int)+k
structure PInv (P : Pst) (b : Nat) : Prop where
 n1:1≤P.n
 n7:P.n≤7
 k8:P.k≤8
 b0:b≤9000
 ev:P.evs.length≤b
 st:P.sts.length≤b
 ml:P.mails.length≤500
 mq:∀m,m∈P.mails→MqOk P.n P.k b m
 cl:∀i,i < P.k→PclOk b (P.cl i)
 hs:∀i q,i < P.n→q < 8→HdOk b (P.has i q)
 fr:∀m,m∈P.mails→FrOk P.n P.k m
theorem PInv.bnd {P:Pst} {b:Nat} (h:PInv P b):PBnd P b:=⟨h.n7,h.k8,by have:=h.ev;have:=h.b0;omega,by have:=h.st;have:=h.b0;omega,h.ml,h.b0,h.mq,fun i hi=>⟨(h.cl i hi).1,(h.cl i hi).2.1,(h.cl i hi).2.2.1⟩⟩
theorem MqOk.up {n k b:Nat} {m:Mq} (h:MqOk n k b m):MqOk n k (b+1) m:=⟨h.1,h.2.1,h.2.2.1,by have:=h.2.2.2;omega⟩
theorem PclOk.up {b:Nat} {x:Pcl} (h:PclOk b x):PclOk (b+1) x:=by
 obtain⟨h1,h2,h3,h4⟩:=h;exact⟨by omega,by omega,by omega,h4⟩
theorem HdOk.up {b:Nat} {x:Hd} (h:HdOk b x):HdOk (b+1) x:=⟨h.1,by have:=h.2;omega⟩
theorem PInv.up {P:Pst} {b:Nat} (h:PInv P b) (hb:b+1≤9000):PInv P (b+1):=
 ⟨h.n1,h.n7,h.k8,hb,Nat.le_succ_of_le h.ev,Nat.le_succ_of_le h.st,h.ml,fun m hm=>(h.mq m hm).up,fun i hi=>(h.cl i hi).up,fun i q hi hq=>(h.hs i q hi hq).up,h.fr⟩
theorem PInv.mails {P:Pst} {b:Nat} (h:PInv P b) {L:List Mq} (hL:L.length≤500) (hm:∀m,m∈L→MqOk P.n P.k b m) (hf:∀m,m∈L→FrOk P.n P.k m):PInv {P with mails:=L} b:=
 ⟨h.n1,h.n7,h.k8,h.b0,h.ev,h.st,hL,hm,h.cl,h.hs,hf⟩
theorem PInv.send {P:Pst} {b:Nat} (h:PInv P b) {m:Mq} (hm:MqOk P.n P.k b m) (hf:FrOk P.n P.k m):PInv (sendP P m) b:=by
 unfold sendP
 split
 ·refine h.mails (by simp;omega) (fun x hx=>?_) fun x hx=>?_
  ·rcases List.mem_append.1 hx with hx | hx
   ·exact h.mq x hx
   ·rw[List.mem_singleton.1 hx];exact hm
  ·rcases List.mem_append.1 hx with hx | hx
   ·exact h.fr x hx
   ·rw[List.mem_singleton.1 hx];exact hf
 ·exact h
theorem PInv.drop {P:Pst} {b:Nat} (h:PInv P b) (i:Int):PInv (dropP P i) b:=by
 unfold dropP
 split
 ·exact h.mails (Nat.le_trans (List.length_eraseIdx_le _ _) h.ml) (fun m hm=>h.mq m (List.mem_of_mem_eraseIdx hm)) fun m hm=>h.fr m (List.mem_of_mem_eraseIdx hm)
 ·exact h
theorem PInv.doub {P:Pst} {b:Nat} (h:PInv P b) (i:Int):PInv (doubP P i) b:=by
 unfold doubP
 split
 ·next m hm=>
  split
  ·exact h.send (h.mq m (List.mem_of_getElem? hm)) (h.fr m (List.mem_of_getElem? hm))
  ·exact h
 ·exact h
theorem PInv.turn {P:Pst} {b:Nat} (h:PInv P b) {c:Nat} {x:Pcl} (hx:PclOk b x):PInv {P with cl:=updP P.cl c x} b:=by
 refine⟨h.n1,h.n7,h.k8,h.b0,h.ev,h.st,h.ml,h.mq,fun i hi=>?_,h.hs,h.fr⟩;show PclOk b (updP P.cl c x i);by_cases e:i=c
 ·subst e;rw[updP_same];exact hx
 ·rw[updP_ne _ _ e];exact h.cl i hi
theorem PInv.see {P:Pst} {b:Nat} (h:PInv P b) (hb:b+1≤9000) (e:Evp) (s:Smp):PInv (seeP P e s) (b+1):=by
 have hu:=h.up hb;exact⟨h.n1,h.n7,h.k8,hb,by have:=h.ev;simp[seeP];omega,by have:=h.st;simp[seeP];omega,h.ml,hu.mq,hu.cl,hu.hs,hu.fr⟩
theorem PInv.give {P:Pst} {b:Nat} (h:PInv P b) (hb:b+1≤9000) (c:Int):PInv (givePP P c) (b+1):=by
 unfold givePP
 split
 ·next hc=>
  split
  ·exact(h.see hb _ _).turn (x:= {P.cl c.toNat with at_:=3}) (h.cl c.toNat (by omega)).up
  ·exact h.up hb
 ·exact h.up hb
theorem PInv.done {P:Pst} {b:Nat} (h:PInv P b) (hb:b+1≤9000) {c:Nat} (hc:c < P.k):PInv (doneP P c) (b+1):=
 (h.see hb _ _).turn (x:= {P.cl c with at_:=0}) (h.cl c hc).up
theorem PInv.sends {P:Pst} {b c:Nat} {x:Pcl} (hx:PclOk b x) (hc:c < P.k):∀(m:Nat),m≤P.n→PInv P b→PInv (sendsP P c x m) b∧(sendsP P c x m).n=P.n∧(sendsP P c x m).k=P.k:=by
 intro m
 induction m with
 | zero=>exact fun _ h=>⟨h,rfl,rfl⟩
 | succ m ih=>
  intro hm h;obtain⟨h1,h2,h3⟩:=ih (by omega) h;have e:sendsP P c x (m+1)=sendP (sendsP P c x m) (msgP (sendsP P c x m).n c x m):=by
   unfold sendsP;rw[List.range_succ,List.foldl_append];rfl
  obtain⟨c1,c2,c3,c4⟩:=hx;have hk:(sendP (sendsP P c x m) (msgP (sendsP P c x m).n c x m)).n=(sendsP P c x m).n∧(sendP (sendsP P c x m) (msgP (sendsP P c x m).n c x m)).k=(sendsP P c x m).k:=by
   unfold sendP
   split<;>exact⟨rfl,rfl⟩
  rw[e];refine⟨h1.send ⟨⟨?_,?_⟩,c4,c3⟩ ⟨?_,?_⟩,hk.1.trans h2,hk.2.trans h3⟩
  ·show (0:Int)≤m;omega
  ·show (m:Int) < _;rw[h2];omega
  ·show (0:Int)≤((sendsP P c x m).n:Int)+c;omega
  ·show ((sendsP P c x m).n:Int)+c < ((sendsP P c x m).n:Int)+((sendsP P c x m).k:Int);rw[h3];omega
open Go.RowKit
section
variable {P : Pst} {b : Nat}
theorem PInv.round (h:PInv P b) (hb:b+1≤9000) {c:Nat} (hck:c < P.k) (hx:(P.cl c).rd+1≤((b+1:Nat):Int)∧0≤(P.cl c).rd) (hk:HdOk (b+1) (P.cl c).kept) (hc:0≤(P.cl c).call.k∧(P.cl c).call.k < 8) (a:Int):PInv (roundP P c a) (b+1):=by
 have hx1:PclOk (b+1) (roundX (P.cl c) a):=⟨Nat.zero_le _,⟨by show 0≤(P.cl c).rd+1;omega,hx.1⟩,hk,hc⟩;exact(PInv.sends (P:= {P with cl:=updP P.cl c (roundX (P.cl c) a)}) hx1 hck P.n (Nat.le_refl _) ((h.up hb).turn hx1)).1
theorem PInv.asked (h:PInv P b) (hb:b+1≤9000) {c:Nat} (hc:c < P.k):PInv (askedP P c) (b+1):=by
 obtain⟨h1,h2,h3,h4⟩:=h.cl c hc;unfold askedP
 split
 ·unfold askedX
  split
  ·have hx:PclOk (b+1) {P.cl c with kept:=⟨⟨(P.cl c).kept.s.t+1,(c:Int)⟩,(P.cl c).call.a⟩} :=⟨by show (P.cl c).cnt.length≤b+1;omega,⟨h2.1,by show (P.cl c).rd≤_;omega⟩,⟨by show 0≤(P.cl c).kept.s.t+1;omega,by show (P.cl c).kept.s.t+1≤_;omega⟩,h4⟩;have hy:PclOk (b+1) (roundX {P.cl c with kept:=⟨⟨(P.cl c).kept.s.t+1,(c:Int)⟩,(P.cl c).call.a⟩} 2):=⟨Nat.zero_le _,⟨by show 0≤(P.cl c).rd+1;omega,by show (P.cl c).rd+1≤_;omega⟩,hx.2.2.1,h4⟩;unfold roundP;simp only[updP_same,updP_updP];exact(PInv.sends (P:= {P with cl:=updP P.cl c _}) hy hc P.n (Nat.le_refl _) ((h.up hb).turn hy)).1
  ·rw[updP_self];exact h.round hb hc ⟨by omega,h2.1⟩ ⟨h3.1,by have:=h3.2;omega⟩ h4 2
 ·exact h.done hb hc
theorem PInv.beg (h:PInv P b) (hb:b+1≤9000) (c key:Int) (wr:Bool) (v:Int):PInv (begP P c key wr v) (b+1):=by
 unfold begP
 split
 ·exact h.up hb
 ·next hg=>
  split
  ·next hf=>
   obtain⟨hc0,hck⟩:=freeP_zero hf;obtain⟨h1,h2,h3,h4⟩:=h.cl c.toNat (by omega);have hkey:0≤key∧key < 8:=by
    have hg':begB key wr v=false:=by simpa using hg
    unfold begB at hg';rw[Bool.or_eq_false_iff,Bool.or_eq_false_iff,Bool.or_eq_false_iff,Bool.or_eq_false_iff] at hg';have a1:=of_decide_eq_false hg'.1.1.1.1;have a2:=of_decide_eq_false hg'.1.1.1.2;omega
   unfold beginP roundP;simp only[updP_same,updP_updP];have hy:PclOk (b+1) (roundX {P.cl c.toNat with call:=callP (c.toNat:Int) key wr v,kept:=hd0} 1):=⟨Nat.zero_le _,⟨by show 0≤(P.cl c.toNat).rd+1;omega,by show (P.cl c.toNat).rd+1≤_;omega⟩,⟨Int.le_refl _,by show (0:Int)≤_;omega⟩,hkey⟩;exact(PInv.sends (P:= {seeP P (callP (c.toNat:Int) key wr v) zeroS with cl:=updP P.cl c.toNat _}) hy (show c.toNat < P.k by omega) P.n (Nat.le_refl _) ((h.see hb (callP (c.toNat:Int) key wr v) zeroS).turn hy)).1
  ·exact h.up hb
theorem HdOk.newer {x y:Hd} (hx:HdOk b x) (hy:HdOk b y):HdOk b (newerH x y):=by
 unfold newerH
 split
 ·exact hy
 ·exact hx
end
end Go.Proofs.YtjpklmighoondaaGreatDoor.St
namespace Go.Proofs.YtjpklmighoondaaGreatDoor.St
open Go.RowKit
section
variable {P : Pst} {b : Nat}
theorem PInv.count (h:PInv P b) (hb:b+2≤9000) {m:Mq} (hm:MqOk P.n P.k b m) (ht:(P.n:Int)≤m.tt):PInv (countP_ P m) (b+2):=by
 have hi:(m.tt - (P.n:Int)).toNat < P.k:=by have:=hm.1.2;omega
 generalize hw:(m.tt - (P.n:Int)).toNat=i at hi;have hcx:PclOk (b+1) (countX (P.cl i) m):=by
  obtain⟨h1,h2,h3,h4⟩:=h.cl i hi;refine⟨by simp[countX];omega,⟨h2.1,by show (P.cl i).rd≤_;omega⟩,?_,h4⟩;show HdOk (b+1) (if (P.cl i).at_=1 then newerH (P.cl i).kept (mqH m) else (P.cl i).kept)
  split
  ·exact(HdOk.newer (y:=mqH m) h3 hm.2.2).up
  ·exact HdOk.up h3
 have h1:=(h.up (by omega)).turn (c:=i) hcx;unfold countP_;rw[hw]
 split
 ·split
  ·split
   ·exact h1.asked hb hi
   ·exact h1.up hb
  ·split
   ·exact h1.done hb hi
   ·exact h1.up hb
 ·exact(h.up (by omega)).up hb
theorem PInv.answer (h:PInv P b) {m:Mq} (hm:MqOk P.n P.k b m) (hf:0≤m.fr∧m.fr < (P.n:Int)+P.k) (ht:m.tt < (P.n:Int)):PInv (answerP P m) b:=by
 have hy:HdOk b (answerH (P.has m.tt.toNat m.key.toNat) m):=by
  have h0:=h.hs m.tt.toNat m.key.toNat (by have:=hm.1.1;omega) (by have:=hm.2.1;omega);unfold answerH
  split
  ·exact HdOk.newer h0 hm.2.2
  ·exact h0
 unfold answerP;generalize answerH (P.has m.tt.toNat m.key.toNat) m=y at*
 refine PInv.send (P:= {P with has:=upd2 P.has m.tt.toNat m.key.toNat y}) ⟨h.n1,h.n7,h.k8,h.b0,h.ev,h.st,h.ml,h.mq,h.cl,fun i q hi hq=>?_,h.fr⟩ ⟨hf,hm.2.1,hy⟩ ⟨hm.1.1,hm.1.2⟩;show HdOk b (upd2 P.has m.tt.toNat m.key.toNat y i q);unfold upd2
 split
 ·exact hy
 ·exact h.hs i q hi hq
theorem PInv.deli (h:PInv P b) (hb:b+2≤9000) (i:Int):PInv (deliP P i) (b+2):=by
 have hu:=(h.up (by omega)).up hb;unfold deliP
 split
 ·next m hm=>
  have hmem:=List.mem_of_getElem? hm
  split
  ·split
   ·have h1:PInv {P with mails:=P.mails.eraseIdx i.toNat} b:=h.mails (Nat.le_trans (List.length_eraseIdx_le _ _) h.ml) (fun m hm=>h.mq m (List.mem_of_mem_eraseIdx hm)) fun m hm=>h.fr m (List.mem_of_mem_eraseIdx hm)
    unfold gotP
    split
    ·next ht=>exact((h1.answer (h.mq m hmem) (h.fr m hmem) ht).up (by omega)).up hb
    ·next ht=>exact h1.count hb (h.mq m hmem) (by show (P.n:Int)≤m.tt;have:=ht;simp only at this;omega)
   ·exact hu
  ·exact hu
 ·exact hu
end
end Go.Proofs.YtjpklmighoondaaGreatDoor.St
namespace Go.Proofs.YtjpklmighoondaaGreatDoor.St
open Go.RowKit
def badV (c:Int):Value:=.tuple #[.slice none 0 0,.iface 55 (.int .i64 c)]
def ruleW (what:Int):Int:=if 7≤what∧what≤10 then what - 7 else 4
theorem DrawTold.from {w w1:World} {n:Nat} {r:Nat→Nat→Bool} {e:Ending} {w':World} (h:DrawTold w1 n r e w') (hb:Below w.heap.size w w1):DrawTold w n r e w':=by
 obtain⟨lv,e1,h1,h2⟩:=h;exact⟨lv,e1,h1.mono fun _ _ h=>⟨Nat.le_trans hb.size h.1,h.2⟩,belJ hb h2⟩
set_option maxHeartbeats 1000000 in
theorem halves_any (x who:Int) (w:World):Calls Tryz.prog 109 #[.int .i64 x] w fun e w'=>((x < 1∨7 < x)∧e=.returned (badV 4)∧Below w.heap.size w w')∨∃n:Nat,x=n∧(1≤n∧n≤7)∧DrawTold w n (linkN 1 n who) e w':=by
 have HB:=hideIt (belA (Below.refl _ w) (.cells #[.int .i64 x] 3));by_cases hx:x < 1∨7 < x
 ·have HD:=hideIt (draw_bad x (.func (.func 163) #[] #[.pointer (some ⟨w.heap.size,0,none⟩)]) hx (w.alloc (.cells #[.int .i64 x] 3)));go_enter Tryz.func109,Tryz.ntmps109
  go_wp2_with fail
  refine HD.out.mono ?_;rintro e w1 ⟨rfl,rfl⟩;go_wp2;go_ret2;exact .inl ⟨hx,rfl,HB.out⟩
 ·obtain⟨n,rfl⟩:∃n:Nat,x=n:=⟨x.toNat,by omega⟩;have hn:1≤n∧n≤7:=by omega
  have HD:=hideIt (draw_any n hn 163 #[.pointer (some ⟨w.heap.size,0,none⟩)] _ (w.alloc (.cells #[.int .i64 (n:Int)] 3)) (halves_rule _ n hn who w.heap.size (heap_alloc_new w _)) (enters_of Tryz.func163 (by kernel_rfl) rfl));clear hx;go_enter Tryz.func109,Tryz.ntmps109
  go_wp2_with fail
  refine HD.out.mono ?_;intro e w1 h1;have h2:=h1.from HB.out;obtain⟨lv,rfl,h3,h4⟩:=h2;have H1:=hideIt h3;have H2:=hideIt h4;clear h1 h3 h4 HD;go_wp2;go_ret2;exact .inr ⟨n,rfl,hn,lv,rfl,H1.out,H2.out⟩
set_option maxHeartbeats 1000000 in
theorem bridge_any (x who:Int) (w:World):Calls Tryz.prog 110 #[.int .i64 x] w fun e w'=>((x < 1∨7 < x)∧e=.returned (badV 4)∧Below w.heap.size w w')∨∃n:Nat,x=n∧(1≤n∧n≤7)∧DrawTold w n (linkN 2 n who) e w':=by
 have HB:=hideIt (belA (Below.refl _ w) (.cells #[.int .i64 x] 3));by_cases hx:x < 1∨7 < x
 ·have HD:=hideIt (draw_bad x (.func (.func 165) #[] #[.pointer (some ⟨w.heap.size,0,none⟩)]) hx (w.alloc (.cells #[.int .i64 x] 3)));go_enter Tryz.func110,Tryz.ntmps110
  go_wp2_with fail
  refine HD.out.mono ?_;rintro e w1 ⟨rfl,rfl⟩;go_wp2;go_ret2;exact .inl ⟨hx,rfl,HB.out⟩
 ·obtain⟨n,rfl⟩:∃n:Nat,x=n:=⟨x.toNat,by omega⟩;have hn:1≤n∧n≤7:=by omega
  have HD:=hideIt (draw_any n hn 165 #[.pointer (some ⟨w.heap.size,0,none⟩)] _ (w.alloc (.cells #[.int .i64 (n:Int)] 3)) (bridge_rule _ n hn who w.heap.size (heap_alloc_new w _)) (enters_of Tryz.func165 (by kernel_rfl) rfl));clear hx;go_enter Tryz.func110,Tryz.ntmps110
  go_wp2_with fail
  refine HD.out.mono ?_;intro e w1 h1;have h2:=h1.from HB.out;obtain⟨lv,rfl,h3,h4⟩:=h2;have H1:=hideIt h3;have H2:=hideIt h4;clear h1 h3 h4 HD;go_wp2;go_ret2;exact .inr ⟨n,rfl,hn,lv,rfl,H1.out,H2.out⟩
set_option maxHeartbeats 1000000 in
theorem ring_any (x who:Int) (w:World):Calls Tryz.prog 111 #[.int .i64 x] w fun e w'=>((x < 1∨7 < x)∧e=.returned (badV 4)∧Below w.heap.size w w')∨∃n:Nat,x=n∧(1≤n∧n≤7)∧DrawTold w n (linkN 3 n who) e w':=by
 have HB:=hideIt (belA (Below.refl _ w) (.cells #[.int .i64 x] 3));by_cases hx:x < 1∨7 < x
 ·have HD:=hideIt (draw_bad x (.func (.func 166) #[] #[.pointer (some ⟨w.heap.size,0,none⟩)]) hx (w.alloc (.cells #[.int .i64 x] 3)));go_enter Tryz.func111,Tryz.ntmps111
  go_wp2_with fail
  refine HD.out.mono ?_;rintro e w1 ⟨rfl,rfl⟩;go_wp2;go_ret2;exact .inl ⟨hx,rfl,HB.out⟩
 ·obtain⟨n,rfl⟩:∃n:Nat,x=n:=⟨x.toNat,by omega⟩;have hn:1≤n∧n≤7:=by omega
  have HD:=hideIt (draw_any n hn 166 #[.pointer (some ⟨w.heap.size,0,none⟩)] _ (w.alloc (.cells #[.int .i64 (n:Int)] 3)) (ring_rule _ n hn who w.heap.size (heap_alloc_new w _)) (enters_of Tryz.func166 (by kernel_rfl) rfl));clear hx;go_enter Tryz.func111,Tryz.ntmps111
  go_wp2_with fail
  refine HD.out.mono ?_;intro e w1 h1;have h2:=h1.from HB.out;obtain⟨lv,rfl,h3,h4⟩:=h2;have H1:=hideIt h3;have H2:=hideIt h4;clear h1 h3 h4 HD;go_wp2;go_ret2;exact .inr ⟨n,rfl,hn,lv,rfl,H1.out,H2.out⟩
def LinksTold (rule x who:Int) (w:World) (e:Ending) (w':World):Prop:=
 ((x < 1∨7 < x)∧e=.returned (badV 4)∧Below w.heap.size w w')∨
 ((1≤x∧x≤7)∧rule=4∧(who < 0∨x≤who)∧e=.returned (badV 2)∧Below w.heap.size w w')∨
 ∃n:Nat,x=n∧(1≤n∧n≤7)∧(rule=4→0≤who∧who < x)∧DrawTold w n (linkN rule n who) e w'
set_option maxHeartbeats 1000000 in
theorem alone_any (x who:Int) (w:World):Calls Tryz.prog 112 #[.int .i64 x,.int .i64 who] w fun e w'=>LinksTold 4 x who w e w':=by
 have HB:=hideIt (belA (Below.refl _ w) (.cells #[.int .i64 who] 3));by_cases hx:x < 1∨7 < x
 ·have HD:=hideIt (draw_bad x (.func (.func 167) #[] #[.pointer (some ⟨w.heap.size,0,none⟩)]) hx (w.alloc (.cells #[.int .i64 who] 3)));go_enter Tryz.func112,Tryz.ntmps112
  go_wp2_with fail
  refine HD.out.mono ?_;rintro e w1 ⟨rfl,rfl⟩;go_wp2;go_ret2;exact .inl ⟨hx,rfl,HB.out⟩
 ·obtain⟨n,rfl⟩:∃n:Nat,x=n:=⟨x.toNat,by omega⟩;have hn:1≤n∧n≤7:=by omega
  have HD:=hideIt (draw_any n hn 167 #[.pointer (some ⟨w.heap.size,0,none⟩)] _ (w.alloc (.cells #[.int .i64 who] 3)) (alone_rule _ n 4 who (.inr (by decide)) w.heap.size (heap_alloc_new w _)) (enters_of Tryz.func167 (by kernel_rfl) rfl));clear hx;go_enter Tryz.func112,Tryz.ntmps112
  go_wp2_with fail
  refine HD.out.mono ?_;intro e w1 h1;obtain⟨lv0,e0,h0,hb0⟩:=h1;have c0:w1.cell? ⟨w.heap.size,0,none⟩=some (.int .i64 who):=(hb0.cell (p:=⟨w.heap.size,0,none⟩) (by simp)).trans (cell_of_row _ _ _ _ 3 _ (heap_alloc_new w _));have h2:=DrawTold.from ⟨lv0,e0,h0,hb0⟩ HB.out;obtain⟨lv,rfl,h3,h4⟩:=h2;have H1:=hideIt h3;have H2:=hideIt h4;clear h3 h4 HD e0 h0 hb0;by_cases g1:who < 0
  ·have g1':decide (who < 0)=true:=decide_eq_true g1;go_wp2;go_ret2;exact .inr (.inl ⟨by omega,rfl,.inl g1,rfl,H2.out⟩)
  have g1':decide (who < 0)=false:=decide_eq_false g1;by_cases g2:(n:Int)≤who
  ·have g2':decide (who≥(n:Int))=true:=decide_eq_true g2;go_wp2;go_ret2;exact .inr (.inl ⟨by omega,rfl,.inr g2,rfl,H2.out⟩)
  have g2':decide (who≥(n:Int))=false:=decide_eq_false g2;go_wp2;go_ret2;exact .inr (.inr ⟨n,rfl,hn,fun _=>by omega,lv,rfl,H1.out,H2.out⟩)
section
variable {P : Pst} {S : Sto}
def cutC (P:Pst) (rule x who:Int):Int:=if x < 1∨7 < x then 4 else if rule=4∧(who < 0∨x≤who) then 2 else if x≠P.n then 3 else 0
def wideP (P:Pst) (r:Nat→Nat→Bool):Pst:= {P with nil:=false,lr:=fun a b=>r (a%P.n) (b%P.n)}
def cutP (P:Pst) (rule x who:Int):Pst:=if cutC P rule x who=0 then wideP P (linkN rule P.n who) else P
def allP (P:Pst):Pst:= {P with nil:=true}
def playC (P:Pst) (m:Mvs):Int:=
 if m.what=0 then begC P m.a m.b false m.c
 else if m.what=1 then begC P m.a m.b true m.c
 else if m.what=2 then deliC P m.a
 else if m.what=3 then dropC P m.a
 else if m.what=4 then doubC P m.a
 else if m.what=5 then giveC P m.a
 else if m.what=6 then 0
 else cutC P (ruleW m.what) m.a m.b
def playP (P:Pst) (m:Mvs):Pst:=
 if m.what=0 then begP P m.a m.b false m.c
 else if m.what=1 then begP P m.a m.b true m.c
 else if m.what=2 then deliP P m.a
 else if m.what=3 then dropP P m.a
 else if m.what=4 then doubP P m.a
 else if m.what=5 then givePP P m.a
 else if m.what=6 then allP P
 else cutP P (ruleW m.what) m.a m.b
theorem begP_no {c key v:Int} {wr:Bool} (h:begC P c key wr v≠0):begP P c key wr v=P:=by
 unfold begC at h;unfold begP
 split at h
 ·next hb=>rw[if_pos hb]
 ·next hb=>rw[if_neg hb,if_neg h]
end
end Go.Proofs.YtjpklmighoondaaGreatDoor.St
namespace Go.Proofs.YtjpklmighoondaaGreatDoor.St
def pcl0:Pcl:=⟨0,⟨0,0,0,0,0,0,0⟩,0,[],⟨⟨0,0⟩,0⟩⟩
def pst0 (n k ask tell:Nat) (back:Bool):Pst:=⟨n,k,ask,tell,back,true,fun _ _=>false,[],fun _ _=>hd0,fun _=>pcl0,[],[]⟩
def runP (P:Pst) (l:List Mvs):Pst:=l.foldl playP P
section
variable {P : Pst} {S : Sto}
end
end Go.Proofs.YtjpklmighoondaaGreatDoor.St
namespace Go.Proofs.YtjpklmighoondaaGreatDoor
def toEv (e:St.Evp):Ev:=⟨e.p,e.t,e.k,e.d,e.a,e.b,e.r⟩
end Go.Proofs.YtjpklmighoondaaGreatDoor
namespace Go.Proofs.YtjpklmighoondaaGreatDoor.Gn
theorem numF_len {lo hi:Int} {s:List BtP} {r:Rn} (h:numF lo hi s=some r):r.s.length+1=s.length∧lo≤r.v∧r.v≤hi:=by
 cases s with
 | nil=>cases h
 | cons t s=>
  simp only[numF] at h
  split at h
  ·split at h
   ·rename_i n hat
    split at h
    ·cases h
    ·rename_i hb
     cases h;exact⟨rfl,by show lo≤n;omega,by show n≤hi;omega⟩
   ·cases h
  ·cases h
theorem expF_len {x:BtP} {s z:List BtP} (h:expF x s=some z):z.length+1=s.length:=by
 cases s with
 | nil=>cases h
 | cons t s=>
  simp only[expF] at h
  split at h
  ·cases h;rfl
  ·cases h
def Takes (gf:List BtP→Option Rg):Prop:=∀s r,gf s=some r→r.s.length < s.length
theorem moreF_len {gf:List BtP→Option Rg} (hg:Takes gf):∀(m:Nat) (L:List Gt) (s:List BtP) (r:Rl),moreF gf m L s=some r→r.s.length≤s.length∧r.l.length+r.s.length≤L.length+s.length
 | 0,_,_,_,h=>by cases h
 | _+1,_,[],_,h=>by cases h
 | m+1,L,t::s,r,h=>by
  simp only[moreF] at h
  split at h
  ·split at h
   ·rename_i q hq
    have h1:=hg _ _ hq;have h2:=moreF_len hg m _ _ _ h;simp only[List.length_append,List.length_cons,List.length_nil] at h2 ⊢;omega
   ·cases h
  ·cases h;exact⟨Nat.le_refl _,Nat.le_refl _⟩
theorem moreF_fuel {gf:List BtP→Option Rg} (hg:Takes gf):∀(m m':Nat) (L:List Gt) (s:List BtP),s.length < m→s.length < m'→moreF gf m L s=moreF gf m' L s
 | 0,_,_,_,h,_=>absurd h (Nat.not_lt_zero _)
 | _,0,_,_,_,h=>absurd h (Nat.not_lt_zero _)
 | _+1,_+1,_,[],_,_=>rfl
 | m+1,m'+1,L,t::s,h,h'=>by
  simp only[List.length_cons] at h h';simp only[moreF]
  split
  ·cases hq:gf s with
   | none=>rfl
   | some q=>
    have h1:=hg _ _ hq;simp only;exact moreF_fuel hg m m' _ _ (by omega) (by omega)
  ·rfl
def finL (q:Option Rl):Option Rl:=match q with
 | none=>none
 | some q=>match expF [41] q.s with
  | none=>none
  | some z=>some ⟨q.l,z⟩
theorem listF_eq (gf:List BtP→Option Rg) (s:List BtP):listF gf s=match expF [40] s with
 | none=>none
 | some s1=>match gf s1 with
  | none=>none
  | some r=>finL (moreF gf (r.s.length+1) [r.g] r.s):=rfl
theorem listF_len {gf:List BtP→Option Rg} (hg:Takes gf) {s:List BtP} {r:Rl} (h:listF gf s=some r):r.s.length < s.length∧r.l.length+r.s.length≤s.length:=by
 rw[listF_eq] at h
 split at h
 ·cases h
 ·rename_i s1 h1
  split at h
  ·cases h
  ·rename_i q hq
   have k1:=expF_len h1;have k2:=hg _ _ hq;unfold finL at h
   split at h
   ·cases h
   ·rename_i z hz
    have k3:=moreF_len hg _ _ _ _ hz
    split at h
    ·cases h
    ·rename_i y hy
     have k4:=expF_len hy;cases h;simp only[List.length_cons,List.length_nil] at k3 ⊢;omega
theorem wrF_len {s:List BtP} {r:Rg} (h:wrF s=some r):r.s.length < s.length:=by
 unfold wrF at h
 split at h
 ·cases h
 ·rename_i k hk
  split at h
  ·cases h
  ·rename_i l hl
   split at h
   ·cases h
   ·rename_i t ht
    have a:=(numF_len hk).1;have b:=(numF_len hl).1;have c:=(numF_len ht).1;cases h;show t.s.length < s.length;omega
theorem gF_takes:∀f,Takes (gF f)
 | 0,_,_,h=>by cases h
 | _+1,[],_,h=>by cases h
 | f+1,t::s,r,h=>by
  have ih:=gF_takes f;simp only[gF] at h;simp only[List.length_cons]
  split at h
  ·split at h
   ·cases h
   ·rename_i k hk
    have:=(numF_len hk).1;cases h;show k.s.length < _;omega
  ·split at h
   ·have:=wrF_len h;omega
   ·split at h
    ·split at h
     ·cases h
     ·rename_i k hk
      have a:=(numF_len hk).1
      split at h
      ·cases h
      ·rename_i q hq
       have b:=ih _ _ hq;cases h;show q.s.length < _;omega
    ·split at h
     ·split at h
      ·cases h
      ·rename_i q hq
       have:=(listF_len ih hq).1;cases h;show q.s.length < _;omega
     ·split at h
      ·split at h
       ·cases h
       ·rename_i q hq
        have:=(listF_len ih hq).1;cases h;show q.s.length < _;omega
      ·cases h
end Go.Proofs.YtjpklmighoondaaGreatDoor.Gn
