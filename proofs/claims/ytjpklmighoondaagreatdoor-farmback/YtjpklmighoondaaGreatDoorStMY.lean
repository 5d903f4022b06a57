/-
  Chapter 17, the program's store, in memory; what turns a part of it.
  Chapter 17, the program's store: each part that is turned.
-/
import Derived.Test.YtjpklmighoondaaGreatDoorEvpY
import Derived.Test.YtjpklmighoondaaGreatDoorNtPY
namespace Go.Proofs.YtjpklmighoondaaGreatDoor.St
open Go.RowKit
def evC (e:Evp):List Value:= [.int .i64 e.p,.int .i64 e.t,.int .i64 e.k,.int .i64 e.d,.int .i64 e.a,.int .i64 e.b,.int .i64 e.r]
def evCs (l:List Evp):List Value:=l.flatMap evC
def spC (s:Smp):List Value:= [.int .i64 s.t,.int .i64 s.c]
def spCs (l:List Smp):List Value:=l.flatMap spC
def intC (l:List Int):List Value:=l.map fun x=>.int .i64 x
theorem evCs_app (l:List Evp) (e:Evp):evCs (l++ [e])=evCs l++evC e:=by simp[evCs]
theorem spCs_app (l:List Smp) (e:Smp):spCs (l++ [e])=spCs l++spC e:=by simp[spCs]
theorem intC_app (l:List Int) (x:Int):intC (l++ [x])=intC l++ [.int .i64 x]:=by simp[intC]
def EvpAt (w:World) (g o:Nat) (e:Evp):Prop:=w.cell? ⟨g,o,none⟩=some (.int .i64 e.p)∧w.cell? ⟨g,o+1,none⟩=some (.int .i64 e.t)∧w.cell? ⟨g,o+2,none⟩=some (.int .i64 e.k)∧w.cell? ⟨g,o+3,none⟩=some (.int .i64 e.d)∧w.cell? ⟨g,o+4,none⟩=some (.int .i64 e.a)∧w.cell? ⟨g,o+5,none⟩=some (.int .i64 e.b)∧w.cell? ⟨g,o+6,none⟩=some (.int .i64 e.r)
def HdAt (w:World) (g o:Nat) (h:Hd):Prop:=w.cell? ⟨g,o,none⟩=some (.int .i64 h.s.t)∧w.cell? ⟨g,o+1,none⟩=some (.int .i64 h.s.c)∧w.cell? ⟨g,o+2,none⟩=some (.int .i64 h.v)
structure ClAt (w : World) (g o : Nat) (x : Pcl) (cv : Value) : Prop where
 at_:w.cell? ⟨g,o,none⟩=some (.int .i64 x.at_)
 call:EvpAt w g (o+1) x.call
 rd:w.cell? ⟨g,o+8,none⟩=some (.int .i64 x.rd)
 cv:w.cell? ⟨g,o+9,none⟩=some cv
 kept:HdAt w g (o+10) x.kept
structure StK where
 B:Nat
 N:Nat
 C:Nat
 vm:Value
 lv:Value
 ve:Value
 vs:Value
 cv:Nat→Value
def stO (K:StK) (P:Pst):Obj:=.cells #[.int .i64 (P.n:Int),.int .i64 (P.k:Int),.int .i64 (P.ask:Int),.int .i64 (P.tell:Int),.bool P.back,K.vm,K.lv,.slice (some ⟨K.N,0,none⟩) P.n P.n,.slice (some ⟨K.C,0,none⟩) P.k P.k,K.ve,K.vs] 110 (0,0)
def LkP (W:World) (lv:Value) (nil:Bool) (M:List (List Bool)):Prop:=(nil=true∧lv=.slice none 0 0)∨(nil=false∧LnkT W lv M∧∃a n c,lv=.slice (some a) n c)
structure StoP (w0 W : World) (K : StK) (P : Pst) : Prop where
 bel:Below w0.heap.size w0 W
 blk:W.heap[K.B]?=some (stO K P)
 nb:∃cur,W.heap[K.N]?=some (.cells cur 115 (0,0))
 nx:∀i q,i < P.n→q < 8→HdAt W K.N (i*24+q*3) (P.has i q)
 cb:∃cur,W.heap[K.C]?=some (.cells cur 250 (0,0))
 cx:∀i,i < P.k→ClAt W K.C (i*13) (P.cl i) (K.cv i)
 ml:W.ownsRow w0.heap.size 202 8 K.vm P.mails.length (mqCs P.mails)
 ev:W.ownsRow w0.heap.size 54 7 K.ve P.evs.length (evCs P.evs)
 st:W.ownsRow w0.heap.size 112 2 K.vs P.sts.length (spCs P.sts)
 ct:∀i,i < P.k→W.ownsRow w0.heap.size 3 1 (K.cv i) (P.cl i).cnt.length (intC (P.cl i).cnt)
 lk:LkP W K.lv P.nil (tabL (P.n+P.k) P.lr)
 lo:w0.heap.size≤K.B∧w0.heap.size≤K.N∧w0.heap.size≤K.C
 dc:∀i j,i < P.k→j < P.k→i≠j→∀b,(K.cv i).ownBlock=some b→(K.cv j).ownBlock≠some b
def StK.own (K:StK) (k b:Nat):Prop:=b=K.B∨b=K.N∨b=K.C∨K.vm.ownBlock=some b∨K.ve.ownBlock=some b∨K.vs.ownBlock=some b∨∃i,i < k∧(K.cv i).ownBlock=some b
structure SFr (K : StK) (k : Nat) (W W' : World) (K' : StK) : Prop where
 B:K'.B=K.B∧K'.N=K.N∧K'.C=K.C
 size:W.heap.size≤W'.heap.size
 rest:∀b,b < W.heap.size→¬K.own k b→W'.heap[b]?=W.heap[b]?
 own:∀b,K'.own k b→K.own k b∨W.heap.size≤b
theorem SFr.trans {K K1 K2:StK} {k:Nat} {W W1 W2:World} (h1:SFr K k W W1 K1) (h2:SFr K1 k W1 W2 K2):SFr K k W W2 K2:=
 ⟨⟨h2.B.1.trans h1.B.1,h2.B.2.1.trans h1.B.2.1,h2.B.2.2.trans h1.B.2.2⟩,Nat.le_trans h1.size h2.size,fun b hb hn=>(h2.rest b (Nat.lt_of_lt_of_le hb h1.size) (fun ho=>(h1.own b ho).elim hn (fun h=>by omega))).trans (h1.rest b hb hn),fun b hb=>(h2.own b hb).elim (h1.own b) fun h=>.inr (Nat.le_trans h1.size h)⟩
theorem SFr.below {K:StK} {k:Nat} {W W':World} (h:Below W.heap.size W W'):SFr K k W W' K:=⟨⟨rfl,rfl,rfl⟩,h.size,fun b hb _=>h.block b hb,fun _ h=>.inl h⟩
section
variable {w0 W W' W1 : World} {K : StK} {P : Pst}
theorem StoP.ltB (h:StoP w0 W K P):K.B < W.heap.size:=lt_of_heap h.blk
theorem StoP.ltN (h:StoP w0 W K P):K.N < W.heap.size:=by obtain⟨_,e⟩:=h.nb;exact lt_of_heap e
theorem StoP.ltC (h:StoP w0 W K P):K.C < W.heap.size:=by obtain⟨_,e⟩:=h.cb;exact lt_of_heap e
theorem StoP.tB (h:StoP w0 W K P):tagD W.heap[K.B]?=110+1:=by rw[h.blk];rfl
theorem StoP.tN (h:StoP w0 W K P):tagD W.heap[K.N]?=115+1:=by obtain⟨_,e⟩:=h.nb;rw[e];rfl
theorem StoP.tC (h:StoP w0 W K P):tagD W.heap[K.C]?=250+1:=by obtain⟨_,e⟩:=h.cb;rw[e];rfl
theorem StoP.tM (h:StoP w0 W K P) {b:Nat} (hb:K.vm.ownBlock=some b):tagD W.heap[b]?=202+1:=own_tagD h.ml hb
theorem StoP.tE (h:StoP w0 W K P) {b:Nat} (hb:K.ve.ownBlock=some b):tagD W.heap[b]?=54+1:=own_tagD h.ev hb
theorem StoP.tS (h:StoP w0 W K P) {b:Nat} (hb:K.vs.ownBlock=some b):tagD W.heap[b]?=112+1:=own_tagD h.st hb
theorem StoP.tI (h:StoP w0 W K P) {i:Nat} (hi:i < P.k) {b:Nat} (hb:(K.cv i).ownBlock=some b):tagD W.heap[b]?=4:=own_tagD (h.ct i hi) hb
theorem StoP.own_lt (h:StoP w0 W K P) {b:Nat} (hb:K.own P.k b):w0.heap.size≤b∧b < W.heap.size:=by
 rcases hb with rfl | rfl | rfl | hb | hb | hb | ⟨i,hi,hb⟩
 ·exact⟨h.lo.1,h.ltB⟩
 ·exact⟨h.lo.2.1,h.ltN⟩
 ·exact⟨h.lo.2.2,h.ltC⟩
 ·have:=ownsRow_block h.ml b hb;exact⟨this.1,this.2.1⟩
 ·have:=ownsRow_block h.ev b hb;exact⟨this.1,this.2.1⟩
 ·have:=ownsRow_block h.st b hb;exact⟨this.1,this.2.1⟩
 ·have:=ownsRow_block (h.ct i hi) b hb;exact⟨this.1,this.2.1⟩
theorem StoP.cells (h:StoP w0 W K P):(W.cell? ⟨K.B,0,none⟩=some (.int .i64 (P.n:Int))∧W.cell? ⟨K.B,1,none⟩=some (.int .i64 (P.k:Int))∧W.cell? ⟨K.B,2,none⟩=some (.int .i64 (P.ask:Int))∧W.cell? ⟨K.B,3,none⟩=some (.int .i64 (P.tell:Int))∧W.cell? ⟨K.B,4,none⟩=some (.bool P.back))∧W.cell? ⟨K.B,5,none⟩=some K.vm∧W.cell? ⟨K.B,6,none⟩=some K.lv∧W.cell? ⟨K.B,7,none⟩=some (.slice (some ⟨K.N,0,none⟩) P.n P.n)∧W.cell? ⟨K.B,8,none⟩=some (.slice (some ⟨K.C,0,none⟩) P.k P.k)∧W.cell? ⟨K.B,9,none⟩=some K.ve∧W.cell? ⟨K.B,10,none⟩=some K.vs:=by
 have hb:=h.blk;unfold stO at hb;have hc:=fun i=>cell_of_row W K.B i _ 110 _ hb
 exact⟨⟨by rw[hc];rfl,by rw[hc];rfl,by rw[hc];rfl,by rw[hc];rfl,by rw[hc];rfl⟩,by rw[hc];rfl,by rw[hc];rfl,by rw[hc];rfl,by rw[hc];rfl,by rw[hc];rfl,by rw[hc];rfl⟩
theorem StoP.fzB (h:StoP w0 W K P) (i:Nat):W.frozen? ⟨K.B,i,none⟩=false:=frozen_of_row _ _ _ _ 110 h.blk
theorem StoP.fzC (h:StoP w0 W K P) (i:Nat):W.frozen? ⟨K.C,i,none⟩=false:=by obtain⟨_,e⟩:=h.cb;exact frozen_of_row _ _ _ _ 250 e
theorem StoP.net (h:StoP w0 W K P):NetP W w0.heap.size K.B 5 K.lv K.vm P.mails:=
 ⟨h.cells.2.1,h.cells.2.2.1,h.fzB 5,h.ml,h.bel.size,fun e=>by have:=h.tM e;rw[h.tB] at this;cases this⟩
theorem EvpAt.block {w w':World} {g o:Nat} {e:Evp} (h:EvpAt w g o e) (hb:w'.heap[g]?=w.heap[g]?):EvpAt w' g o e:=by
 obtain⟨h0,h1,h2,h3,h4,h5,h6⟩:=h;have hc:=fun i=>World.cell?_of_block (a:=⟨g,i,none⟩) hb
 exact⟨(hc _).trans h0,(hc _).trans h1,(hc _).trans h2,(hc _).trans h3,(hc _).trans h4,(hc _).trans h5,(hc _).trans h6⟩
theorem HdAt.block {w w':World} {g o:Nat} {h:Hd} (hh:HdAt w g o h) (hb:w'.heap[g]?=w.heap[g]?):HdAt w' g o h:=by
 have hc:=fun i=>World.cell?_of_block (a:=⟨g,i,none⟩) hb
 exact⟨(hc _).trans hh.1,(hc _).trans hh.2.1,(hc _).trans hh.2.2⟩
theorem ClAt.block {w w':World} {g o:Nat} {x:Pcl} {cv:Value} (h:ClAt w g o x cv) (hb:w'.heap[g]?=w.heap[g]?):ClAt w' g o x cv:=by
 have hc:=fun i=>World.cell?_of_block (a:=⟨g,i,none⟩) hb
 exact⟨(hc _).trans h.at_,h.call.block hb,(hc _).trans h.rd,(hc _).trans h.cv,h.kept.block hb⟩
theorem EvpAt.cells {w w':World} {g o:Nat} {e:Evp} (h:EvpAt w g o e) (hc:∀i,o≤i→i < o+7→w'.cell? ⟨g,i,none⟩=w.cell? ⟨g,i,none⟩):EvpAt w' g o e:=by
 obtain⟨h0,h1,h2,h3,h4,h5,h6⟩:=h;exact⟨(hc _ (by omega) (by omega)).trans h0,(hc _ (by omega) (by omega)).trans h1,(hc _ (by omega) (by omega)).trans h2,(hc _ (by omega) (by omega)).trans h3,(hc _ (by omega) (by omega)).trans h4,(hc _ (by omega) (by omega)).trans h5,(hc _ (by omega) (by omega)).trans h6⟩
theorem HdAt.cells {w w':World} {g o:Nat} {h:Hd} (hh:HdAt w g o h) (hc:∀i,o≤i→i < o+3→w'.cell? ⟨g,i,none⟩=w.cell? ⟨g,i,none⟩):HdAt w' g o h:=
 ⟨(hc _ (by omega) (by omega)).trans hh.1,(hc _ (by omega) (by omega)).trans hh.2.1,(hc _ (by omega) (by omega)).trans hh.2.2⟩
theorem ClAt.cells {w w':World} {g o:Nat} {x:Pcl} {cv:Value} (h:ClAt w g o x cv) (hc:∀i,o≤i→i < o+13→w'.cell? ⟨g,i,none⟩=w.cell? ⟨g,i,none⟩):ClAt w' g o x cv:=
 ⟨(hc _ (by omega) (by omega)).trans h.at_,h.call.cells fun i h1 h2=>hc i (by omega) (by omega),(hc _ (by omega) (by omega)).trans h.rd,(hc _ (by omega) (by omega)).trans h.cv,h.kept.cells fun i h1 h2=>hc i (by omega) (by omega)⟩
theorem LkP.keep {lv:Value} {nil:Bool} {M:List (List Bool)} (h:LkP W lv nil M) (hk:∀b,LTg W b→W'.heap[b]?=W.heap[b]?):LkP W' lv nil M:=h.imp id fun⟨e,h1,h2⟩=>⟨e,h1.keep hk,h2⟩
theorem StoP.keep (h:StoP w0 W K P) (hb:Below w0.heap.size w0 W') (hk:∀b,K.own P.k b→W'.heap[b]?=W.heap[b]?) (hl:∀b,LTg W b→W'.heap[b]?=W.heap[b]?):StoP w0 W' K P:=by
 obtain⟨cn,hn⟩:=h.nb;obtain⟨cc,hc⟩:=h.cb;have eN:=hk K.N (.inr (.inl rfl));have eC:=hk K.C (.inr (.inr (.inl rfl)));exact⟨hb,(hk _ (.inl rfl)).trans h.blk,⟨cn,eN.trans hn⟩,fun i q hi hq=>(h.nx i q hi hq).block eN,⟨cc,eC.trans hc⟩,fun i hi=>(h.cx i hi).block eC,ownsRow_same h.ml fun b hb=>hk b (.inr (.inr (.inr (.inl hb)))),ownsRow_same h.ev fun b hb=>hk b (.inr (.inr (.inr (.inr (.inl hb))))),ownsRow_same h.st fun b hb=>hk b (.inr (.inr (.inr (.inr (.inr (.inl hb)))))),fun i hi=>ownsRow_same (h.ct i hi) fun b hb=>hk b (.inr (.inr (.inr (.inr (.inr (.inr ⟨i,hi,hb⟩)))))),h.lk.keep hl,h.lo,h.dc⟩
theorem StoP.below (h:StoP w0 W K P) (hb:Below W.heap.size W W'):StoP w0 W' K P:=
 h.keep (belJ h.bel hb) (fun b hb'=>hb.block b (h.own_lt hb').2) fun b hb'=>hb.block b hb'.lt
theorem StoP.parts (h:StoP w0 W K P) {X:Nat→Prop} (hk:∀b,b < W.heap.size→¬X b→W'.heap[b]?=W.heap[b]?):
  (¬X K.N→(∃cur,W'.heap[K.N]?=some (.cells cur 115 (0,0)))∧∀i q,i < P.n→q < 8→HdAt W' K.N (i*24+q*3) (P.has i q))∧
  (¬X K.C→(∃cur,W'.heap[K.C]?=some (.cells cur 250 (0,0)))∧∀i,i < P.k→ClAt W' K.C (i*13) (P.cl i) (K.cv i))∧
  ((∀b,K.vm.ownBlock=some b→¬X b)→W'.ownsRow w0.heap.size 202 8 K.vm P.mails.length (mqCs P.mails))∧
  ((∀b,K.ve.ownBlock=some b→¬X b)→W'.ownsRow w0.heap.size 54 7 K.ve P.evs.length (evCs P.evs))∧
  ((∀b,K.vs.ownBlock=some b→¬X b)→W'.ownsRow w0.heap.size 112 2 K.vs P.sts.length (spCs P.sts))∧
  (∀i,i < P.k→(∀b,(K.cv i).ownBlock=some b→¬X b)→W'.ownsRow w0.heap.size 3 1 (K.cv i) (P.cl i).cnt.length (intC (P.cl i).cnt))∧
  ((∀b,LTg W b→¬X b)→LkP W' K.lv P.nil (tabL (P.n+P.k) P.lr)):=by
 refine⟨fun hx=>?_,fun hx=>?_,fun hx=>ownsRow_same h.ml fun b hb=>hk b (ownsRow_block h.ml b hb).2.1 (hx b hb),fun hx=>ownsRow_same h.ev fun b hb=>hk b (ownsRow_block h.ev b hb).2.1 (hx b hb),fun hx=>ownsRow_same h.st fun b hb=>hk b (ownsRow_block h.st b hb).2.1 (hx b hb),fun i hi hx=>ownsRow_same (h.ct i hi) fun b hb=>hk b (ownsRow_block (h.ct i hi) b hb).2.1 (hx b hb),fun hx=>h.lk.keep fun b hb=>hk b hb.lt (hx b hb)⟩
 ·have e:=hk K.N h.ltN hx;obtain⟨cur,hc⟩:=h.nb;exact⟨⟨cur,e.trans hc⟩,fun i q hi hq=>(h.nx i q hi hq).block e⟩
 ·have e:=hk K.C h.ltC hx;obtain⟨cur,hc⟩:=h.cb;exact⟨⟨cur,e.trans hc⟩,fun i hi=>(h.cx i hi).block e⟩
end
end Go.Proofs.YtjpklmighoondaaGreatDoor.St
namespace Go.Proofs.YtjpklmighoondaaGreatDoor.St
open Go.RowKit
def toldE (c:Int):Value:=if c=0 then .nilIface else .iface 55 (.int .i64 c)
section
variable {w0 W W' W1 : World} {K : StK} {P : Pst}
theorem StoP.mail (h:StoP w0 W K P) {L':List Mq} {v':Value} (ht:MailT w0.heap.size K.B 5 K.vm L' W W' v'):StoP w0 W' {K with vm:=v'} {P with mails:=L'} ∧SFr K P.k W W' {K with vm:=v'} :=by
 have hk:∀b,b < W.heap.size→¬(b=K.B∨K.vm.ownBlock=some b)→W'.heap[b]?=W.heap[b]?:=fun b hb hn=>ht.rest b hb (fun e=>hn (.inl e)) (fun e=>hn (.inr e))
 have nX:∀{b x:Nat},tagD W.heap[b]?=x→x≠110+1→x≠202+1→¬(b=K.B∨K.vm.ownBlock=some b):=fun hx h1 h2 e=>e.elim (fun e=>ne_tagD hx h.tB h1 e) fun e=>ne_tagD hx (h.tM e) h2 rfl
 obtain⟨pN,pC,_,pE,pS,pI,pL⟩:=h.parts (X:=fun b=>b=K.B∨K.vm.ownBlock=some b) hk;obtain⟨n1,n2⟩:=pN (nX h.tN (by decide) (by decide));obtain⟨c1,c2⟩:=pC (nX h.tC (by decide) (by decide));refine⟨⟨ht.below h.bel h.lo.1 (fun b hb=>(ownsRow_block h.ml b hb).1) h.bel.size,?_,n1,n2,c1,c2,ht.row,pE fun b hb=>nX (h.tE hb) (by decide) (by decide),pS fun b hb=>nX (h.tS hb) (by decide) (by decide),fun i hi=>pI i hi fun b hb=>nX (h.tI hi hb) (by decide) (by decide),pL fun b hb=>hb.elim (fun e=>nX e (by decide) (by decide)) fun e=>nX e (by decide) (by decide),h.lo,h.dc⟩,⟨rfl,rfl,rfl⟩,ht.size,fun b hb hn=>hk b hb fun e=>hn (e.elim .inl fun e=>.inr (.inr (.inr (.inl e)))),fun b hb=>?_⟩
 ·rw[ht.blk];exact heap_setCell_same W K.B 5 _ 110 _ h.blk
 ·rcases hb with hb | hb | hb | hb | hb
  ·exact .inl (.inl hb)
  ·exact .inl (.inr (.inl hb))
  ·exact .inl (.inr (.inr (.inl hb)))
  ·rcases ht.own with e | ⟨b',e,hb'⟩
   ·exact .inl (.inr (.inr (.inr (.inl (by rw[←e];exact hb)))))
   ·have:some b'=some b:=e.symm.trans hb;cases this;exact .inr hb'
  ·exact .inl (.inr (.inr (.inr (.inr hb))))
structure OnlyC (W W' : World) (C o m : Nat) (t : TypeId) : Prop where
 rest:∀b,b≠C→W'.heap[b]?=W.heap[b]?
 blk:∃cur,W'.heap[C]?=some (.cells cur t (0,0))
 cells:∀j,(j < o∨o+m≤j)→W'.cell? ⟨C,j,none⟩=W.cell? ⟨C,j,none⟩
 size:W'.heap.size=W.heap.size
 os:W'.os=W.os
 tape:W'.tape=W.tape
 output:W'.output=W.output
theorem OnlyC.refl {C o m:Nat} {t:TypeId} (h:∃cur,W.heap[C]?=some (.cells cur t (0,0))):OnlyC W W C o m t:=⟨fun _ _=>rfl,h,fun _ _=>rfl,rfl,rfl,rfl,rfl⟩
theorem OnlyC.set {C o m:Nat} {t:TypeId} (h:OnlyC W W' C o m t) {j:Nat} (hj:o≤j∧j < o+m) (u:Value):OnlyC W (W'.setCell ⟨C,j,none⟩ u) C o m t:=by
 obtain⟨cur,hc⟩:=h.blk;obtain⟨cur',hc',_⟩:=heap_setCell hc j u;exact⟨fun b hb=>(Below.heap_setCell W' ⟨C,j,none⟩ u b hb).trans (h.rest b hb),⟨cur',hc'⟩,fun i hi=>(World.cell?_setCell_other _ _ _ _ (offNe (by omega))).trans (h.cells i hi),by simpa using h.size,h.os,h.tape,h.output⟩
theorem StoP.setC (h:StoP w0 W K P) {i:Nat} (hi:i < P.k) (hO:OnlyC W W' K.C (i*13) 13 250) {x:Pcl} {cv:Value} (hc:ClAt W' K.C (i*13) x cv) (hv:(cv=K.cv i∧x.cnt=(P.cl i).cnt)∨(cv=.slice none 0 0∧x.cnt= [])):
  StoP w0 W' {K with cv:=updP K.cv i cv} {P with cl:=updP P.cl i x} ∧SFr K P.k W W' {K with cv:=updP K.cv i cv} :=by
 obtain⟨pN,_,pM,pE,pS,pI,pL⟩:=h.parts (X:=fun b=>b=K.C) (fun b _ hb=>hO.rest b hb);obtain⟨n1,n2⟩:=pN (ne_tagD h.tN h.tC (by decide));have hown:∀j b,j < P.k→(updP K.cv i cv j).ownBlock=some b→(K.cv j).ownBlock=some b:=fun j b _ hb=>by
  by_cases e:j=i
  ·subst e;rw[updP_same] at hb;rcases hv with ⟨e,_⟩ | ⟨e,_⟩
   ·rw[←e];exact hb
   ·rw[e] at hb;cases hb
  ·rwa [updP_ne _ _ e] at hb
 refine⟨⟨⟨hO.os.trans h.bel.os,hO.tape.trans h.bel.tape,hO.output.trans h.bel.output,by rw[hO.size];exact h.bel.size,fun b hb=>(hO.rest b (by have:=h.lo.2.2;omega)).trans (h.bel.block b hb)⟩,(hO.rest _ (ne_tagD h.tB h.tC (by decide))).trans h.blk,n1,n2,hO.blk,fun j hj=>?_,pM fun b hb=>ne_tagD (h.tM hb) h.tC (by decide),pE fun b hb=>ne_tagD (h.tE hb) h.tC (by decide),pS fun b hb=>ne_tagD (h.tS hb) h.tC (by decide),fun j hj=>?_,pL fun b hb=>hb.elim (fun e=>ne_tagD e h.tC (by decide)) fun e=>ne_tagD e h.tC (by decide),h.lo,fun a b ha hb hne c hc' he=>h.dc a b ha hb hne c (hown a c ha hc') (hown b c hb he)⟩,⟨rfl,rfl,rfl⟩,by rw[hO.size];exact Nat.le_refl _,fun b _ hn=>hO.rest b fun e=>hn (.inr (.inr (.inl e))),fun b hb=>?_⟩
 ·show ClAt W' K.C (j*13) (updP P.cl i x j) (updP K.cv i cv j);by_cases e:j=i
  ·subst e;rw[updP_same,updP_same];exact hc
  ·rw[updP_ne _ _ e,updP_ne _ _ e];exact(h.cx j hj).cells fun q h1 h2=>hO.cells q (by omega)
 ·show World.ownsRow _ _ _ _ (updP K.cv i cv j) (updP P.cl i x j).cnt.length (intC (updP P.cl i x j).cnt);by_cases e:j=i
  ·subst e;rw[updP_same,updP_same];rcases hv with ⟨e1,e2⟩ | ⟨e1,e2⟩
   ·rw[e1,e2];exact pI j hj fun b hb=>ne_tagD (h.tI hj hb) h.tC (by decide)
   ·rw[e1,e2];exact⟨rfl,.inl ⟨rfl,rfl⟩⟩
  ·rw[updP_ne _ _ e,updP_ne _ _ e];exact pI j hj fun b hb=>ne_tagD (h.tI hj hb) h.tC (by decide)
 ·rcases hb with hb | hb | hb | hb | hb | hb | ⟨j,hj,hb⟩
  ·exact .inl (.inl hb)
  ·exact .inl (.inr (.inl hb))
  ·exact .inl (.inr (.inr (.inl hb)))
  ·exact .inl (.inr (.inr (.inr (.inl hb))))
  ·exact .inl (.inr (.inr (.inr (.inr (.inl hb)))))
  ·exact .inl (.inr (.inr (.inr (.inr (.inr (.inl hb))))))
  ·exact .inl (.inr (.inr (.inr (.inr (.inr (.inr ⟨j,hj,hown j b hj hb⟩))))))
theorem updP_self {α:Type} (f:Nat→α) (i:Nat):updP f i (f i)=f:=by
 funext j
 by_cases e:j=i
 ·subst e;exact updP_same _ _ _
 ·exact updP_ne _ _ e
theorem StoP.setN (h:StoP w0 W K P) {i q:Nat} (hi:i < P.n) (hq:q < 8) (hO:OnlyC W W' K.N (i*24+q*3) 3 115) {x:Hd} (hx:HdAt W' K.N (i*24+q*3) x):StoP w0 W' K {P with has:=upd2 P.has i q x} ∧SFr K P.k W W' K:=by
 obtain⟨_,pC,pM,pE,pS,pI,pL⟩:=h.parts (X:=fun b=>b=K.N) (fun b _ hb=>hO.rest b hb);obtain⟨c1,c2⟩:=pC (ne_tagD h.tC h.tN (by decide));refine⟨⟨⟨hO.os.trans h.bel.os,hO.tape.trans h.bel.tape,hO.output.trans h.bel.output,by rw[hO.size];exact h.bel.size,fun b hb=>(hO.rest b (by have:=h.lo.2.1;omega)).trans (h.bel.block b hb)⟩,(hO.rest _ (ne_tagD h.tB h.tN (by decide))).trans h.blk,hO.blk,fun j s hj hs=>?_,c1,c2,pM fun b hb=>ne_tagD (h.tM hb) h.tN (by decide),pE fun b hb=>ne_tagD (h.tE hb) h.tN (by decide),pS fun b hb=>ne_tagD (h.tS hb) h.tN (by decide),fun j hj=>pI j hj fun b hb=>ne_tagD (h.tI hj hb) h.tN (by decide),pL fun b hb=>hb.elim (fun e=>ne_tagD e h.tN (by decide)) fun e=>ne_tagD e h.tN (by decide),h.lo,h.dc⟩,⟨rfl,rfl,rfl⟩,by rw[hO.size];exact Nat.le_refl _,fun b _ hn=>hO.rest b fun e=>hn (.inr (.inl e)),fun b hb=>.inl hb⟩;show HdAt W' K.N (j*24+s*3) (upd2 P.has i q x j s);unfold upd2;by_cases e:j=i∧s=q
 ·obtain⟨rfl,rfl⟩:=e;rw[if_pos ⟨rfl,rfl⟩];exact hx
 ·rw[if_neg e];exact(h.nx j s hj hs).cells fun p h1 h2=>hO.cells p (by omega)
theorem StoP.pushE (h:StoP w0 W K P) {e:Evp} {v':Value} (ho:W1.ownsRow w0.heap.size 54 7 v' (P.evs++ [e]).length (evCs (P.evs++ [e]))) (hg:W.grownBy W1 K.ve.ownBlock) (hv:v'.ownBlock=K.ve.ownBlock∨v'.ownBlock=some W.heap.size):
  StoP w0 (W1.setCell ⟨K.B,9,none⟩ v') {K with ve:=v'} {P with evs:=P.evs++ [e]} ∧SFr K P.k W (W1.setCell ⟨K.B,9,none⟩ v') {K with ve:=v'} :=by
 have hk:∀b,b < W.heap.size→¬(b=K.B∨K.ve.ownBlock=some b)→(W1.setCell ⟨K.B,9,none⟩ v').heap[b]?=W.heap[b]?:=fun b hb hn=>(Below.heap_setCell W1 ⟨K.B,9,none⟩ v' b fun e=>hn (.inl e)).trans (hg.block b hb fun e=>hn (.inr e.symm))
 have nX:∀{b x:Nat},tagD W.heap[b]?=x→x≠110+1→x≠54+1→¬(b=K.B∨K.ve.ownBlock=some b):=fun hx h1 h2 e=>e.elim (fun e=>ne_tagD hx h.tB h1 e) fun e=>ne_tagD hx (h.tE e) h2 rfl
 obtain⟨pN,pC,pM,_,pS,pI,pL⟩:=h.parts (X:=fun b=>b=K.B∨K.ve.ownBlock=some b) hk;obtain⟨n1,n2⟩:=pN (nX h.tN (by decide) (by decide));obtain⟨c1,c2⟩:=pC (nX h.tC (by decide) (by decide));have eB:W1.heap[K.B]?=W.heap[K.B]?:=hg.block _ h.ltB fun e=>ne_tagD h.tB (h.tE e.symm) (by decide) rfl
 have hne:v'.ownBlock≠some K.B:=fun e'=>by
  rcases hv with e | e
  ·rw[e] at e';exact ne_tagD (h.tE e') h.tB (by decide) rfl
  ·rw[e] at e';have:=h.ltB;have:=Option.some.inj e';omega
 refine⟨⟨(h.bel.grown hg h.bel.size fun b hb=>(ownsRow_block h.ev b hb).1).setCell (p:=⟨K.B,9,none⟩) h.lo.1 _,heap_setCell_same W1 K.B 9 _ 110 _ (eB.trans h.blk),n1,n2,c1,c2,pM fun b hb=>nX (h.tM hb) (by decide) (by decide),ownsRow_same ho fun b hb=>Below.heap_setCell W1 ⟨K.B,9,none⟩ v' b (fun e=>hne (by rw[hb,e])),pS fun b hb=>nX (h.tS hb) (by decide) (by decide),fun i hi=>pI i hi fun b hb=>nX (h.tI hi hb) (by decide) (by decide),pL fun b hb=>hb.elim (fun e=>nX e (by decide) (by decide)) fun e=>nX e (by decide) (by decide),h.lo,h.dc⟩,⟨rfl,rfl,rfl⟩,by have:=hg.size;simpa using this,fun b hb hn=>hk b hb fun e=>hn (e.elim .inl fun e=>.inr (.inr (.inr (.inr (.inl e))))),fun b hb=>?_⟩;rcases hb with hb | hb | hb | hb | hb | hb
 ·exact .inl (.inl hb)
 ·exact .inl (.inr (.inl hb))
 ·exact .inl (.inr (.inr (.inl hb)))
 ·exact .inl (.inr (.inr (.inr (.inl hb))))
 ·rcases hv with e | e
  ·exact .inl (.inr (.inr (.inr (.inr (.inl (by rw[←e];exact hb))))))
  ·have:some W.heap.size=some b:=e.symm.trans hb;cases this;exact .inr (Nat.le_refl _)
 ·exact .inl (.inr (.inr (.inr (.inr (.inr hb)))))
theorem StoP.pushS (h:StoP w0 W K P) {e:Smp} {v':Value} (ho:W1.ownsRow w0.heap.size 112 2 v' (P.sts++ [e]).length (spCs (P.sts++ [e]))) (hg:W.grownBy W1 K.vs.ownBlock) (hv:v'.ownBlock=K.vs.ownBlock∨v'.ownBlock=some W.heap.size):
  StoP w0 (W1.setCell ⟨K.B,10,none⟩ v') {K with vs:=v'} {P with sts:=P.sts++ [e]} ∧SFr K P.k W (W1.setCell ⟨K.B,10,none⟩ v') {K with vs:=v'} :=by
 have hk:∀b,b < W.heap.size→¬(b=K.B∨K.vs.ownBlock=some b)→(W1.setCell ⟨K.B,10,none⟩ v').heap[b]?=W.heap[b]?:=fun b hb hn=>(Below.heap_setCell W1 ⟨K.B,10,none⟩ v' b fun e=>hn (.inl e)).trans (hg.block b hb fun e=>hn (.inr e.symm))
 have nX:∀{b x:Nat},tagD W.heap[b]?=x→x≠110+1→x≠112+1→¬(b=K.B∨K.vs.ownBlock=some b):=fun hx h1 h2 e=>e.elim (fun e=>ne_tagD hx h.tB h1 e) fun e=>ne_tagD hx (h.tS e) h2 rfl
 obtain⟨pN,pC,pM,pE,_,pI,pL⟩:=h.parts (X:=fun b=>b=K.B∨K.vs.ownBlock=some b) hk;obtain⟨n1,n2⟩:=pN (nX h.tN (by decide) (by decide));obtain⟨c1,c2⟩:=pC (nX h.tC (by decide) (by decide));have eB:W1.heap[K.B]?=W.heap[K.B]?:=hg.block _ h.ltB fun e=>ne_tagD h.tB (h.tS e.symm) (by decide) rfl
 have hne:v'.ownBlock≠some K.B:=fun e'=>by
  rcases hv with e | e
  ·rw[e] at e';exact ne_tagD (h.tS e') h.tB (by decide) rfl
  ·rw[e] at e';have:=h.ltB;have:=Option.some.inj e';omega
 refine⟨⟨(h.bel.grown hg h.bel.size fun b hb=>(ownsRow_block h.st b hb).1).setCell (p:=⟨K.B,10,none⟩) h.lo.1 _,heap_setCell_same W1 K.B 10 _ 110 _ (eB.trans h.blk),n1,n2,c1,c2,pM fun b hb=>nX (h.tM hb) (by decide) (by decide),pE fun b hb=>nX (h.tE hb) (by decide) (by decide),ownsRow_same ho fun b hb=>Below.heap_setCell W1 ⟨K.B,10,none⟩ v' b (fun e=>hne (by rw[hb,e])),fun i hi=>pI i hi fun b hb=>nX (h.tI hi hb) (by decide) (by decide),pL fun b hb=>hb.elim (fun e=>nX e (by decide) (by decide)) fun e=>nX e (by decide) (by decide),h.lo,h.dc⟩,⟨rfl,rfl,rfl⟩,by have:=hg.size;simpa using this,fun b hb hn=>hk b hb fun e=>hn (e.elim .inl fun e=>.inr (.inr (.inr (.inr (.inr (.inl e)))))),fun b hb=>?_⟩;rcases hb with hb | hb | hb | hb | hb | hb | hb
 ·exact .inl (.inl hb)
 ·exact .inl (.inr (.inl hb))
 ·exact .inl (.inr (.inr (.inl hb)))
 ·exact .inl (.inr (.inr (.inr (.inl hb))))
 ·exact .inl (.inr (.inr (.inr (.inr (.inl hb)))))
 ·rcases hv with e | e
  ·exact .inl (.inr (.inr (.inr (.inr (.inr (.inl (by rw[←e];exact hb)))))))
  ·have:some W.heap.size=some b:=e.symm.trans hb;cases this;exact .inr (Nat.le_refl _)
 ·exact .inl (.inr (.inr (.inr (.inr (.inr (.inr hb))))))
theorem StoP.pushC (h:StoP w0 W K P) {i:Nat} (hi:i < P.k) {x:Int} {v':Value} (ho:W1.ownsRow w0.heap.size 3 1 v' ((P.cl i).cnt++ [x]).length (intC ((P.cl i).cnt++ [x]))) (hg:W.grownBy W1 (K.cv i).ownBlock) (hv:v'.ownBlock=(K.cv i).ownBlock∨v'.ownBlock=some W.heap.size):
  StoP w0 (W1.setCell ⟨K.C,i*13+9,none⟩ v') {K with cv:=updP K.cv i v'} {P with cl:=updP P.cl i {P.cl i with cnt:=(P.cl i).cnt++ [x]}} ∧SFr K P.k W (W1.setCell ⟨K.C,i*13+9,none⟩ v') {K with cv:=updP K.cv i v'} :=by
 have hk:∀b,b < W.heap.size→¬(b=K.C∨(K.cv i).ownBlock=some b)→(W1.setCell ⟨K.C,i*13+9,none⟩ v').heap[b]?=W.heap[b]?:=fun b hb hn=>(Below.heap_setCell W1 ⟨K.C,i*13+9,none⟩ v' b fun e=>hn (.inl e)).trans (hg.block b hb fun e=>hn (.inr e.symm))
 have nX:∀{b x:Nat},tagD W.heap[b]?=x→x≠250+1→x≠4→¬(b=K.C∨(K.cv i).ownBlock=some b):=fun hx h1 h2 e=>e.elim (fun e=>ne_tagD hx h.tC h1 e) fun e=>ne_tagD hx (h.tI hi e) h2 rfl
 obtain⟨pN,_,pM,pE,pS,pI,pL⟩:=h.parts (X:=fun b=>b=K.C∨(K.cv i).ownBlock=some b) hk;obtain⟨n1,n2⟩:=pN (nX h.tN (by decide) (by decide));have eC:W1.heap[K.C]?=W.heap[K.C]?:=hg.block _ h.ltC fun e=>ne_tagD h.tC (h.tI hi e.symm) (by decide) rfl
 obtain⟨cur,hcur⟩:=h.cb;obtain⟨cur',hcur',_⟩:=heap_setCell (eC.trans hcur) (i*13+9) v';have hne:v'.ownBlock≠some K.C:=fun e'=>by
  rcases hv with e | e
  ·rw[e] at e';exact ne_tagD (h.tI hi e') h.tC (by decide) rfl
  ·rw[e] at e';have:=h.ltC;have:=Option.some.inj e';omega
 have hc1:∀j,j≠i*13+9→(W1.setCell ⟨K.C,i*13+9,none⟩ v').cell? ⟨K.C,j,none⟩=W.cell? ⟨K.C,j,none⟩:=fun j hj=>(World.cell?_setCell_other _ _ _ _ (offNe (Ne.symm hj))).trans (World.cell?_of_block (a:=⟨K.C,j,none⟩) eC)
 have hown:∀{b},v'.ownBlock=some b→(K.cv i).ownBlock=some b∨b=W.heap.size:=fun hb=>by
  rcases hv with e | e
  ·exact .inl (by rw[←e];exact hb)
  ·rw[e] at hb;exact .inr (Option.some.inj hb).symm
 refine⟨⟨(h.bel.grown hg h.bel.size fun b hb=>(ownsRow_block (h.ct i hi) b hb).1).setCell (p:=⟨K.C,i*13+9,none⟩) h.lo.2.2 _,(hk _ h.ltB (nX h.tB (by decide) (by decide))).trans h.blk,n1,n2,⟨cur',hcur'⟩,fun j hj=>?_,pM fun b hb=>nX (h.tM hb) (by decide) (by decide),pE fun b hb=>nX (h.tE hb) (by decide) (by decide),pS fun b hb=>nX (h.tS hb) (by decide) (by decide),fun j hj=>?_,pL fun b hb=>hb.elim (fun e=>nX e (by decide) (by decide)) fun e=>nX e (by decide) (by decide),h.lo,fun a c ha hc hac b hb he=>?_⟩,⟨rfl,rfl,rfl⟩,by have:=hg.size;simpa using this,fun b hb hn=>hk b hb fun e=>hn (e.elim (fun e=>.inr (.inr (.inl e))) fun e=>.inr (.inr (.inr (.inr (.inr (.inr ⟨i,hi,e⟩)))))),fun b hb=>?_⟩
 ·show ClAt _ K.C (j*13) (updP P.cl i _ j) (updP K.cv i v' j);by_cases e:j=i
  ·subst e;rw[updP_same,updP_same];have hx:=h.cx j hj;exact⟨(hc1 _ (by omega)).trans hx.at_,hx.call.cells fun q h1 h2=>hc1 q (by omega),(hc1 _ (by omega)).trans hx.rd,World.cell?_setCell_same' _ _ _ (by rw[World.cell?_of_block (a:=⟨K.C,j*13+9,none⟩) eC,hx.cv];rfl),hx.kept.cells fun q h1 h2=>hc1 q (by omega)⟩
  ·rw[updP_ne _ _ e,updP_ne _ _ e];exact(h.cx j hj).cells fun q h1 h2=>hc1 q (by omega)
 ·show World.ownsRow _ _ _ _ (updP K.cv i v' j) (updP P.cl i _ j).cnt.length (intC (updP P.cl i _ j).cnt);by_cases e:j=i
  ·subst e;rw[updP_same,updP_same];exact ownsRow_same ho fun b hb=>Below.heap_setCell W1 ⟨K.C,j*13+9,none⟩ v' b (fun e=>hne (by rw[hb,e]))
  ·rw[updP_ne _ _ e,updP_ne _ _ e];exact pI j hj fun b hb hx=>hx.elim (fun e'=>ne_tagD (h.tI hj hb) h.tC (by decide) e') fun e'=>h.dc i j hi hj (Ne.symm e) b e' hb
 ·replace hb:(updP K.cv i v' a).ownBlock=some b:=hb;replace he:(updP K.cv i v' c).ownBlock=some b:=he;have hlt:∀j,j < P.k→(K.cv j).ownBlock=some b→b < W.heap.size:=fun j hj e=>(ownsRow_block (h.ct j hj) b e).2.1
  by_cases ea:a=i
  ·subst ea;rw[updP_same] at hb;rw[updP_ne _ _ (Ne.symm hac)] at he;rcases hown hb with e | e
   ·exact h.dc a c ha hc hac b e he
   ·have:=hlt c hc he;omega
  ·rw[updP_ne _ _ ea] at hb;by_cases ec:c=i
   ·subst ec;rw[updP_same] at he;rcases hown he with e | e
    ·exact h.dc a c ha hc hac b hb e
    ·have:=hlt a ha hb;omega
   ·rw[updP_ne _ _ ec] at he;exact h.dc a c ha hc hac b hb he
 ·rcases hb with hb | hb | hb | hb | hb | hb | ⟨j,hj,hb⟩
  ·exact .inl (.inl hb)
  ·exact .inl (.inr (.inl hb))
  ·exact .inl (.inr (.inr (.inl hb)))
  ·exact .inl (.inr (.inr (.inr (.inl hb))))
  ·exact .inl (.inr (.inr (.inr (.inr (.inl hb)))))
  ·exact .inl (.inr (.inr (.inr (.inr (.inr (.inl hb))))))
  ·replace hb:(updP K.cv i v' j).ownBlock=some b:=hb;by_cases e:j=i
   ·subst e;rw[updP_same] at hb;rcases hown hb with e | e
    ·exact .inl (.inr (.inr (.inr (.inr (.inr (.inr ⟨j,hj,e⟩))))))
    ·exact .inr (by omega)
   ·rw[updP_ne _ _ e] at hb;exact .inl (.inr (.inr (.inr (.inr (.inr (.inr ⟨j,hj,hb⟩))))))
theorem StoP.setL (h:StoP w0 W K P) (hb:Below W.heap.size W W1) {lv':Value} {nil:Bool} {r:Nat→Nat→Bool} (hl:LkP W1 lv' nil (tabL (P.n+P.k) r)):StoP w0 (W1.setCell ⟨K.B,6,none⟩ lv') {K with lv:=lv'} {P with nil:=nil,lr:=r} ∧SFr K P.k W (W1.setCell ⟨K.B,6,none⟩ lv') {K with lv:=lv'} :=by
 have h1:=h.below hb;have hk:∀b,b < W1.heap.size→¬b=K.B→(W1.setCell ⟨K.B,6,none⟩ lv').heap[b]?=W1.heap[b]?:=fun b _ hn=>Below.heap_setCell W1 ⟨K.B,6,none⟩ lv' b hn
 obtain⟨pN,pC,pM,pE,pS,pI,_⟩:=h1.parts (X:=fun b=>b=K.B) hk;obtain⟨n1,n2⟩:=pN (ne_tagD h1.tN h1.tB (by decide));obtain⟨c1,c2⟩:=pC (ne_tagD h1.tC h1.tB (by decide));refine⟨⟨h1.bel.setCell (p:=⟨K.B,6,none⟩) h.lo.1 _,heap_setCell_same W1 K.B 6 _ 110 _ h1.blk,n1,n2,c1,c2,pM fun b hb=>ne_tagD (h1.tM hb) h1.tB (by decide),pE fun b hb=>ne_tagD (h1.tE hb) h1.tB (by decide),pS fun b hb=>ne_tagD (h1.tS hb) h1.tB (by decide),fun i hi=>pI i hi fun b hb=>ne_tagD (h1.tI hi hb) h1.tB (by decide),hl.keep fun b hb=>hk b hb.lt (hb.elim (fun e=>ne_tagD e h1.tB (by decide)) fun e=>ne_tagD e h1.tB (by decide)),h.lo,h.dc⟩,⟨rfl,rfl,rfl⟩,by have:=hb.size;simpa using this,fun b hb' hn=>(Below.heap_setCell W1 ⟨K.B,6,none⟩ lv' b fun e=>hn (.inl e)).trans (hb.block b hb'),fun b hb=>.inl hb⟩
end
end Go.Proofs.YtjpklmighoondaaGreatDoor.St
