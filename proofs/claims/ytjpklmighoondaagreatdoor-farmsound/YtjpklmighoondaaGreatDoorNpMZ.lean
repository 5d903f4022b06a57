/-
  The program's net in memory: mails on their way, and who can talk.
  Chapter 17, the program's own way, in plain Lean.
  Package net's rules, walked: who can talk to whom.
  Rows of bools in memory: a matrix that is one's own.
-/
import Derived.Test.YtjpklmighoondaaGreatDoorToldPZ
import Derived.Laws.AppendOwn
import Derived.ArgAppend
import Derived.Deep.DeepCutAuto
import Derived.Test.YtjpklmighoondaaGreatDoorMnZ
import Derived.Test.YtjpklmighoondaaGreatDoorGnPZ
import Derived.Test.YtjpklmighoondaaGreatDoorAbVZ
import Derived.Laws.MakeOwn
namespace Go.Proofs.YtjpklmighoondaaGreatDoor.St
open Go.RowKit
structure Mq where
 fr:Int
 tt:Int
 key:Int
 rd:Int
 tells:Bool
 t:Int
 c:Int
 v:Int
def mqC (m:Mq):List Value:= [.int .i64 m.fr,.int .i64 m.tt,.int .i64 m.key,.int .i64 m.rd,.bool m.tells,.int .i64 m.t,.int .i64 m.c,.int .i64 m.v]
def mqV (m:Mq):Value:=.agg #[.int .i64 m.fr,.int .i64 m.tt,.int .i64 m.key,.int .i64 m.rd,.bool m.tells,.int .i64 m.t,.int .i64 m.c,.int .i64 m.v]
def mq0:Mq:=⟨0,0,0,0,false,0,0,0⟩
def mqCs (L:List Mq):List Value:=L.flatMap mqC
theorem mqCs_app (L M:List Mq):mqCs (L++M)=mqCs L++mqCs M:=by simp[mqCs]
theorem mqCs_one (m:Mq):mqCs [m]=mqC m:=by simp[mqCs]
theorem mqCs_len (L:List Mq):(mqCs L).length=L.length*8:=by
 induction L with
 | nil=>rfl
 | cons m L ih=>rw[show m::L= [m]++L from rfl,mqCs_app,List.length_append,ih,mqCs_one];simp[mqC];omega
theorem mqC_one {m:Mq} {u:Value} (h:u∈mqC m):u.oneCell'=true:=by
 simp[mqC] at h;rcases h with rfl | rfl | rfl | rfl | rfl | rfl | rfl | rfl<;>rfl
theorem mqCs_ones {L:List Mq} {u:Value} (h:u∈mqCs L):u.oneCell'=true:=by
 obtain⟨m,_,hm⟩:=List.mem_flatMap.1 h;exact mqC_one hm
theorem infoMq:(Tryz.prog.info? 202).map (fun i=>(i.zero,i.size,i.bytes))=some (some (Value.agg #[.int .i64 0,.int .i64 0,.int .i64 0,.int .i64 0,.bool false,.int .i64 0,.int .i64 0,.int .i64 0]),8,64):=by kernel_rfl
theorem sizeMq:(Tryz.prog.info? 202).map (·.size)=some 8:=by kernel_rfl
theorem blkMq {w:World} {b:Nat} {t:TypeId} {m:Mq} (h:w.heap[b]?=some (.cells #[.int .i64 m.fr,.int .i64 m.tt,.int .i64 m.key,.int .i64 m.rd,.bool m.tells,.int .i64 m.t,.int .i64 m.c,.int .i64 m.v] t)):w.cell? ⟨b,0,none⟩=some (.int .i64 m.fr)∧w.cell? ⟨b,1,none⟩=some (.int .i64 m.tt)∧w.cell? ⟨b,2,none⟩=some (.int .i64 m.key)∧w.cell? ⟨b,3,none⟩=some (.int .i64 m.rd)∧w.cell? ⟨b,4,none⟩=some (.bool m.tells)∧w.cell? ⟨b,5,none⟩=some (.int .i64 m.t)∧w.cell? ⟨b,6,none⟩=some (.int .i64 m.c)∧w.cell? ⟨b,7,none⟩=some (.int .i64 m.v):=
 ⟨by rw[cell_of_row _ _ _ _ t _ h];rfl,by rw[cell_of_row _ _ _ _ t _ h];rfl,by rw[cell_of_row _ _ _ _ t _ h];rfl,by rw[cell_of_row _ _ _ _ t _ h];rfl,by rw[cell_of_row _ _ _ _ t _ h];rfl,by rw[cell_of_row _ _ _ _ t _ h];rfl,by rw[cell_of_row _ _ _ _ t _ h];rfl,by rw[cell_of_row _ _ _ _ t _ h];rfl⟩
theorem mqCs_at {L:List Mq} {k j:Nat} (hk:k < L.length) {u:Value} (h:(mqC L[k])[j]?=some u):(mqCs L)[k*8+j]?=some u:=by
 have:=flat_at (c:=mqC) (m:=8) (fun _=>rfl) L k j hk (by have:=(List.getElem?_eq_some_iff.1 h).1;exact this);unfold mqCs;rw[this];exact h
theorem mqCs_drop {L:List Mq} {k j:Nat} (hk:k≤L.length) {u:Value} (h:(mqCs (L.drop k))[j]?=some u):(mqCs L)[k*8+j]?=some u:=by
 have hl:(mqCs (L.take k)).length=k*8:=by rw[mqCs_len,List.length_take,Nat.min_eq_left hk]
 rw[←List.take_append_drop k L,mqCs_app,List.getElem?_append_right (by omega),hl,show k*8+j - k*8=j by omega];exact h
theorem setMq {W:World} {b:Nat} {t:TypeId} {x0 x1 x2 x3 x4 x5 x6 x7 y0 y1 y2 y3 y4 y5 y6 y7:Value} (h:W.heap[b]?=some (.cells #[x0,x1,x2,x3,x4,x5,x6,x7] t (0,0))):(((((((((W).setCell ⟨b,0,none⟩ (y0)).setCell ⟨b,1,none⟩ (y1)).setCell ⟨b,2,none⟩ (y2)).setCell ⟨b,3,none⟩ (y3)).setCell ⟨b,4,none⟩ (y4)).setCell ⟨b,5,none⟩ (y5)).setCell ⟨b,6,none⟩ (y6)).setCell ⟨b,7,none⟩ (y7)).heap[b]?=some (.cells #[y0,y1,y2,y3,y4,y5,y6,y7] t (0,0)):=by
 have h0:((W).setCell ⟨b,0,none⟩ y0).heap[b]?=some (.cells #[y0,x1,x2,x3,x4,x5,x6,x7] t (0,0)):=heap_setCell_same _ b 0 _ t _ h;have h1:(((W).setCell ⟨b,0,none⟩ y0).setCell ⟨b,1,none⟩ y1).heap[b]?=some (.cells #[y0,y1,x2,x3,x4,x5,x6,x7] t (0,0)):=heap_setCell_same _ b 1 _ t _ h0;have h2:((((W).setCell ⟨b,0,none⟩ y0).setCell ⟨b,1,none⟩ y1).setCell ⟨b,2,none⟩ y2).heap[b]?=some (.cells #[y0,y1,y2,x3,x4,x5,x6,x7] t (0,0)):=heap_setCell_same _ b 2 _ t _ h1;have h3:(((((W).setCell ⟨b,0,none⟩ y0).setCell ⟨b,1,none⟩ y1).setCell ⟨b,2,none⟩ y2).setCell ⟨b,3,none⟩ y3).heap[b]?=some (.cells #[y0,y1,y2,y3,x4,x5,x6,x7] t (0,0)):=heap_setCell_same _ b 3 _ t _ h2;have h4:((((((W).setCell ⟨b,0,none⟩ y0).setCell ⟨b,1,none⟩ y1).setCell ⟨b,2,none⟩ y2).setCell ⟨b,3,none⟩ y3).setCell ⟨b,4,none⟩ y4).heap[b]?=some (.cells #[y0,y1,y2,y3,y4,x5,x6,x7] t (0,0)):=heap_setCell_same _ b 4 _ t _ h3;have h5:(((((((W).setCell ⟨b,0,none⟩ y0).setCell ⟨b,1,none⟩ y1).setCell ⟨b,2,none⟩ y2).setCell ⟨b,3,none⟩ y3).setCell ⟨b,4,none⟩ y4).setCell ⟨b,5,none⟩ y5).heap[b]?=some (.cells #[y0,y1,y2,y3,y4,y5,x6,x7] t (0,0)):=heap_setCell_same _ b 5 _ t _ h4;have h6:((((((((W).setCell ⟨b,0,none⟩ y0).setCell ⟨b,1,none⟩ y1).setCell ⟨b,2,none⟩ y2).setCell ⟨b,3,none⟩ y3).setCell ⟨b,4,none⟩ y4).setCell ⟨b,5,none⟩ y5).setCell ⟨b,6,none⟩ y6).heap[b]?=some (.cells #[y0,y1,y2,y3,y4,y5,y6,x7] t (0,0)):=heap_setCell_same _ b 6 _ t _ h5
 have h7:(((((((((W).setCell ⟨b,0,none⟩ y0).setCell ⟨b,1,none⟩ y1).setCell ⟨b,2,none⟩ y2).setCell ⟨b,3,none⟩ y3).setCell ⟨b,4,none⟩ y4).setCell ⟨b,5,none⟩ y5).setCell ⟨b,6,none⟩ y6).setCell ⟨b,7,none⟩ y7).heap[b]?=some (.cells #[y0,y1,y2,y3,y4,y5,y6,y7] t (0,0)):=heap_setCell_same _ b 7 _ t _ h6;exact h7
theorem setMq_bel {B:Nat} {w W:World} {b:Nat} (y0 y1 y2 y3 y4 y5 y6 y7:Value) (h:Below B w W) (hb:B≤b):Below B w (((((((((W).setCell ⟨b,0,none⟩ (y0)).setCell ⟨b,1,none⟩ (y1)).setCell ⟨b,2,none⟩ (y2)).setCell ⟨b,3,none⟩ (y3)).setCell ⟨b,4,none⟩ (y4)).setCell ⟨b,5,none⟩ (y5)).setCell ⟨b,6,none⟩ (y6)).setCell ⟨b,7,none⟩ (y7)):=
 ((((((((h).setCell (p:=⟨b,0,none⟩) hb _).setCell (p:=⟨b,1,none⟩) hb _).setCell (p:=⟨b,2,none⟩) hb _).setCell (p:=⟨b,3,none⟩) hb _).setCell (p:=⟨b,4,none⟩) hb _).setCell (p:=⟨b,5,none⟩) hb _).setCell (p:=⟨b,6,none⟩) hb _).setCell (p:=⟨b,7,none⟩) hb _
theorem grown_setCell (w:World) (a:Addr) (u:Value):w.grownBy (w.setCell a u) (some a.block):=
 ⟨rfl,rfl,rfl,by simp[World.setCell],fun k _ hne=>by
  have:a.block≠k:=fun e=>hne (by rw[e])
  simp[World.setCell,Array.getElem?_modify,this]⟩
theorem grown_drew (w:World):w.grownBy w.drew none:=⟨rfl,rfl,rfl,Nat.le_refl _,fun _ _ _=>rfl⟩
theorem grown_below {w w':World} (h:Below w.heap.size w w'):w.grownBy w' none:=⟨h.os,h.tape,h.output,h.size,fun k hk _=>h.block k hk⟩
structure NetP (w : World) (base B o : Nat) (lv v : Value) (L : List Mq) : Prop where
 c0:w.cell? ⟨B,o,none⟩=some v
 c1:w.cell? ⟨B,o+1,none⟩=some lv
 f0:w.frozen? ⟨B,o,none⟩=false
 row:w.ownsRow base 202 8 v L.length (mqCs L)
 lo:base≤w.heap.size
 ne:v.ownBlock≠some B
section
variable {w w' : World} {base B o : Nat} {lv v : Value} {L : List Mq}
theorem NetP.slice (h:NetP w base B o lv v L):∃a cap,v=.slice a L.length cap:=ownsRow_slice h.row
theorem NetP.lt (h:NetP w base B o lv v L):B < w.heap.size:=World.block_lt_of_cell? w _ h.c0
theorem NetP.keep (h:NetP w base B o lv v L) (hb:w'.heap[B]?=w.heap[B]?) (hv:∀b,v.ownBlock=some b→w'.heap[b]?=w.heap[b]?) (hs:w.heap.size≤w'.heap.size):NetP w' base B o lv v L:=
 ⟨(World.cell?_of_block (a:=⟨B,o,none⟩) hb).trans h.c0,(World.cell?_of_block (a:=⟨B,o+1,none⟩) hb).trans h.c1,(World.frozen?_of_block (a:=⟨B,o,none⟩) hb).trans h.f0,ownsRow_same h.row hv,Nat.le_trans h.lo hs,h.ne⟩
theorem NetP.below (h:NetP w base B o lv v L) (hb:Below w.heap.size w w'):NetP w' base B o lv v L:=
 h.keep (hb.block B h.lt) (fun b hv=>hb.block b (ownsRow_block h.row b hv).2.1) hb.size
theorem NetP.at (h:NetP w base B o lv v L) {k:Nat} (hk:k < L.length):∃g cap,v=.slice (some ⟨g,0,none⟩) L.length cap∧L.length≤cap∧base≤g∧∀m,L[k]?=some m→w.cell? ⟨g,k*8,none⟩=some (.int .i64 m.fr)∧w.cell? ⟨g,k*8+1,none⟩=some (.int .i64 m.tt)∧w.cell? ⟨g,k*8+2,none⟩=some (.int .i64 m.key)∧w.cell? ⟨g,k*8+3,none⟩=some (.int .i64 m.rd)∧w.cell? ⟨g,k*8+4,none⟩=some (.bool m.tells)∧w.cell? ⟨g,k*8+5,none⟩=some (.int .i64 m.t)∧w.cell? ⟨g,k*8+6,none⟩=some (.int .i64 m.c)∧w.cell? ⟨g,k*8+7,none⟩=some (.int .i64 m.v):=by
 rcases h.row.2 with ⟨_,e⟩ | ⟨g,cap,cur,e,hb,_,h1,_⟩
 ·omega
 ·refine⟨g,cap,e,h1,hb,fun m hm=>?_⟩;obtain rfl:L[k]=m:=by rw[List.getElem?_eq_getElem hk] at hm;exact Option.some.inj hm
  have hcel:=h.row.cells (g:=g) (by rw[e];rfl);have hh:∀j u,(mqC L[k])[j]?=some u→w.cell? ⟨g,k*8+j,none⟩=some u:=fun j u hj=>by
   have:=hcel _ _ (mqCs_at hk hj)
   rwa [Addr.add_lit,Nat.zero_add] at this
  exact⟨hh 0 _ rfl,hh 1 _ rfl,hh 2 _ rfl,hh 3 _ rfl,hh 4 _ rfl,hh 5 _ rfl,hh 6 _ rfl,hh 7 _ rfl⟩
structure MailT (base B o : Nat) (v : Value) (L' : List Mq) (w w' : World) (v' : Value) : Prop where
 blk:w'.heap[B]?=(w.setCell ⟨B,o,none⟩ v').heap[B]?
 row:w'.ownsRow base 202 8 v' L'.length (mqCs L')
 own:v'.ownBlock=v.ownBlock∨∃b,v'.ownBlock=some b∧w.heap.size≤b
 rest:∀b,b < w.heap.size→b≠B→v.ownBlock≠some b→w'.heap[b]?=w.heap[b]?
 size:w.heap.size≤w'.heap.size
 os:w'.os=w.os
 tape:w'.tape=w.tape
 output:w'.output=w.output
def MailTold (base B o:Nat) (v:Value) (L':List Mq) (w w':World):Prop:=∃v',MailT base B o v L' w w' v'
theorem MailT.of {w1:World} {v':Value} {L':List Mq} (h:NetP w base B o lv v L) (hg:w.grownBy w1 v.ownBlock) (hr:w1.ownsRow base 202 8 v' L'.length (mqCs L')) (hv:v'.ownBlock=v.ownBlock∨∃b,v'.ownBlock=some b∧w.heap.size≤b):MailT base B o v L' w (w1.setCell ⟨B,o,none⟩ v') v':=by
 have hB:=h.lt;have e1:w1.heap[B]?=w.heap[B]?:=hg.block B hB fun e=>h.ne e.symm
 have hne:v'.ownBlock≠some B:=by
  rcases hv with e | ⟨b,e,hb⟩
  ·rw[e];exact h.ne
  ·rw[e];intro e';cases e';omega
 refine⟨?_,ownsRow_same hr fun b hb=>Below.heap_setCell _ _ _ b (fun e=>hne (by rw[hb];exact congrArg some e)),hv,fun b hb h1 h2=>(Below.heap_setCell w1 ⟨B,o,none⟩ v' b h1).trans (hg.block b hb (fun e=>h2 e.symm)),by have:=hg.size;simpa using this,hg.os,hg.tape,hg.output⟩;simp only[World.setCell,Array.getElem?_modify,if_true,e1]
theorem MailT.pre {w0:World} {v':Value} {L':List Mq} (h:NetP w0 base B o lv v L) (hb:Below w0.heap.size w0 w) (ht:MailT base B o v L' w w' v'):MailT base B o v L' w0 w' v':=by
 refine⟨?_,ht.row,ht.own.imp id fun⟨b,e,hb'⟩=>⟨b,e,Nat.le_trans hb.size hb'⟩,fun b h1 h2 h3=>(ht.rest b (Nat.lt_of_lt_of_le h1 hb.size) h2 h3).trans (hb.block b h1),Nat.le_trans hb.size ht.size,ht.os.trans hb.os,ht.tape.trans hb.tape,ht.output.trans hb.output⟩;rw[ht.blk];simp only[World.setCell,Array.getElem?_modify,if_true,hb.block B h.lt]
theorem MailT.past {w2:World} {v':Value} {L':List Mq} (h:NetP w base B o lv v L) (ht:MailT base B o v L' w w' v') (hk:∀b,(b < w.heap.size∨v'.ownBlock=some b)→w2.heap[b]?=w'.heap[b]?) (hs:w'.heap.size≤w2.heap.size) (h1:w2.os=w'.os) (h2:w2.tape=w'.tape) (h3:w2.output=w'.output):MailT base B o v L' w w2 v':=
 ⟨(hk B (.inl h.lt)).trans ht.blk,ownsRow_same ht.row fun b hb=>hk b (.inr hb),ht.own,fun b hb h1 h2=>(hk b (.inl hb)).trans (ht.rest b hb h1 h2),Nat.le_trans ht.size hs,h1.trans ht.os,h2.trans ht.tape,h3.trans ht.output⟩
theorem MailT.set {v':Value} {L':List Mq} (ht:MailT base B o v L' w w' v') (h:NetP w base B o lv v L) {p:Addr} (hp:w.heap.size≤p.block) (hne:v'.ownBlock≠some p.block) (u:Value):MailT base B o v L' w (w'.setCell p u) v':=
 ht.past h (fun b hb=>Below.heap_setCell w' p u b (fun e=>hb.elim (fun h1=>by omega) (fun h1=>hne (by rw[h1,e])))) (by simp) rfl rfl rfl
theorem MailT.below {B0:Nat} {w0:World} {v':Value} {L':List Mq} (ht:MailT base B o v L' w w' v') (hb:Below B0 w0 w) (h1:B0≤B) (h2:∀b,v.ownBlock=some b→B0≤b) (hs:B0≤w.heap.size):Below B0 w0 w':=
 ⟨ht.os.trans hb.os,ht.tape.trans hb.tape,ht.output.trans hb.output,Nat.le_trans hb.size ht.size,fun b hb'=>(ht.rest b (Nat.lt_of_lt_of_le hb' hs) (by omega) (fun e=>by have:=h2 b e;omega)).trans (hb.block b hb')⟩
end
end Go.Proofs.YtjpklmighoondaaGreatDoor.St
namespace Go.Proofs.YtjpklmighoondaaGreatDoor.St
structure Evp where
 p:Int
 t:Int
 k:Int
 d:Int
 a:Int
 b:Int
 r:Int
structure Pcl where
 at_:Int
 call:Evp
 rd:Int
 cnt:List Int
 kept:Hd
structure Pst where
 n:Nat
 k:Nat
 ask:Nat
 tell:Nat
 back:Bool
 nil:Bool
 lr:Nat→Nat→Bool
 mails:List Mq
 has:Nat→Nat→Hd
 cl:Nat→Pcl
 evs:List Evp
 sts:List Smp
def updP {α:Type} (f:Nat→α) (i:Nat) (x:α):Nat→α:=fun j=>if j=i then x else f j
theorem updP_same {α:Type} (f:Nat→α) (i:Nat) (x:α):updP f i x i=x:=if_pos rfl
theorem updP_ne {α:Type} (f:Nat→α) {i j:Nat} (x:α) (h:j≠i):updP f i x j=f j:=if_neg h
def upd2 {α:Type} (f:Nat→Nat→α) (i q:Nat) (x:α):Nat→Nat→α:=fun j s=>if j=i∧s=q then x else f j s
def newerH (a b:Hd):Hd:=if a.s.lt b.s then b else a
def Pcl.busy (x:Pcl):Bool:=decide (x.at_=1)||decide (x.at_=2)
def busyP (P:Pst):Nat:=(List.range P.k).countP fun j=>(P.cl j).busy
def freeP (P:Pst) (c:Int):Int:=
 if c < 0∨(P.k:Int)≤c then 2 else if (P.cl c.toNat).at_≠0 then 6 else if 120 < P.evs.length+2+busyP P then 4 else 0
def sendP (P:Pst) (m:Mq):Pst:=if P.mails.length < 500 then {P with mails:=P.mails++ [m]} else P
def msgP (n c:Nat) (x:Pcl) (j:Nat):Mq:=⟨(n:Int)+c,j,x.call.k,x.rd,decide (x.at_=2),x.kept.s.t,x.kept.s.c,x.kept.v⟩
def sendsP (P:Pst) (c:Nat) (x:Pcl) (m:Nat):Pst:=(List.range m).foldl (fun P j=>sendP P (msgP P.n c x j)) P
def roundX (x:Pcl) (at_:Int):Pcl:= {x with at_:=at_,rd:=x.rd+1,cnt:= []}
def roundP (P:Pst) (c:Nat) (at_:Int):Pst:=sendsP {P with cl:=updP P.cl c (roundX (P.cl c) at_)} c (roundX (P.cl c) at_) P.n
def seeP (P:Pst) (e:Evp) (s:Smp):Pst:= {P with evs:=P.evs++ [e],sts:=P.sts++ [s]}
def callP (c key:Int) (write:Bool) (value:Int):Evp:=⟨c,1,key,if write then 2 else 1,value,0,0⟩
def beginP (P:Pst) (c:Nat) (key:Int) (write:Bool) (value:Int):Pst:=
 roundP {P with evs:=P.evs++ [callP c key write value],sts:=P.sts++ [zeroS],cl:=updP P.cl c {P.cl c with call:=callP c key write value,kept:=hd0}} c 1
def giveP (P:Pst) (c:Nat):Pst:= {P with evs:=P.evs++ [{(P.cl c).call with t:=4}],sts:=P.sts++ [zeroS],cl:=updP P.cl c {P.cl c with at_:=3}}
def endP (x:Pcl):Evp:=if x.call.d=1 then {x.call with t:=2,r:=x.kept.v} else {x.call with t:=2}
def doneP (P:Pst) (c:Nat):Pst:= {P with evs:=P.evs++ [endP (P.cl c)],sts:=P.sts++ [(P.cl c).kept.s],cl:=updP P.cl c {P.cl c with at_:=0}}
def askedX (c:Nat) (x:Pcl):Pcl:=if x.call.d=2 then {x with kept:=⟨⟨x.kept.s.t+1,c⟩,x.call.a⟩} else x
def askedP (P:Pst) (c:Nat):Pst:=
 if (P.cl c).call.d=2∨P.back=true then roundP {P with cl:=updP P.cl c (askedX c (P.cl c))} c 2 else doneP P c
def mqH (m:Mq):Hd:=⟨⟨m.t,m.c⟩,m.v⟩
def countX (x:Pcl) (m:Mq):Pcl:= {x with cnt:=x.cnt++ [m.fr],kept:=if x.at_=1 then newerH x.kept (mqH m) else x.kept}
def countP_ (P:Pst) (m:Mq):Pst:=
 if (P.cl (m.tt - P.n).toNat).busy=true∧m.rd=(P.cl (m.tt - P.n).toNat).rd∧m.fr∉(P.cl (m.tt - P.n).toNat).cnt then
  if (P.cl (m.tt - P.n).toNat).at_=1 then
   if (P.cl (m.tt - P.n).toNat).cnt.length+1=P.ask then askedP {P with cl:=updP P.cl (m.tt - P.n).toNat (countX (P.cl (m.tt - P.n).toNat) m)} (m.tt - P.n).toNat
   else {P with cl:=updP P.cl (m.tt - P.n).toNat (countX (P.cl (m.tt - P.n).toNat) m)}
  else if (P.cl (m.tt - P.n).toNat).cnt.length+1=P.tell then doneP {P with cl:=updP P.cl (m.tt - P.n).toNat (countX (P.cl (m.tt - P.n).toNat) m)} (m.tt - P.n).toNat
   else {P with cl:=updP P.cl (m.tt - P.n).toNat (countX (P.cl (m.tt - P.n).toNat) m)}
 else P
def answerH (own:Hd) (m:Mq):Hd:=if m.tells=true then newerH own (mqH m) else own
def answerP (P:Pst) (m:Mq):Pst:=
 sendP {P with has:=upd2 P.has m.tt.toNat m.key.toNat (answerH (P.has m.tt.toNat m.key.toNat) m)} ⟨m.tt,m.fr,m.key,m.rd,false,(answerH (P.has m.tt.toNat m.key.toNat) m).s.t,(answerH (P.has m.tt.toNat m.key.toNat) m).s.c,(answerH (P.has m.tt.toNat m.key.toNat) m).v⟩
open Go.RowKit
def RuleQ (w:World) (f:Nat) (caps:Array Value) (n:Nat) (r:Nat→Nat→Bool):Prop:=
 ∀Z,Below w.heap.size w Z→∀a b:Nat,a < n→b < n→Calls Tryz.prog f (#[.int .i64 (a:Int),.int .i64 (b:Int)]++caps) Z fun e w'=>e=.returned (.bool (r a b))∧w'=Z
def linkN (what:Int) (n:Nat) (who:Int) (a b:Nat):Bool:=linkedB what n who a b
set_option maxRecDepth 100000 in
set_option maxHeartbeats 1000000 in
theorem half_any (n a b:Nat) (hn:1≤n∧n≤7) (ha:a < n) (_hb:b < n) (Z:World):
  Calls Tryz.prog 164 #[.int .i64 (n:Int),.int .i64 (a:Int),.int .i64 (b:Int)] Z fun e w'=>e=.returned (.bool (decide ((a:Int) < (n:Int) / 2)==decide ((b:Int) < (n:Int) / 2)))∧w'=Z:=by
 have q1:(n:Int).tdiv 2=(n:Int) / 2:=Int.tdiv_eq_ediv_of_nonneg (by omega);have w1:IntKind.i64.wrap ((n:Int) / 2)=(n:Int) / 2:=IntWalk.i64_in _ (by omega);go_enter Tryz.func164,Tryz.ntmps164
 go_wp2;go_ret;exact⟨rfl,rfl⟩
set_option maxRecDepth 100000 in
set_option maxHeartbeats 1000000 in
theorem halves_rule (w:World) (n:Nat) (hn:1≤n∧n≤7) (who:Int) (Bc:Nat) (hB:w.heap[Bc]?=some (.cells #[.int .i64 (n:Int)] 3)):RuleQ w 163 #[.pointer (some ⟨Bc,0,none⟩)] n (linkN 1 n who):=by
 intro Z hZ a b ha hb;have c0:Z.cell? ⟨Bc,0,none⟩=some (.int .i64 (n:Int)):=(hZ.cell (p:=⟨Bc,0,none⟩) (Array.getElem?_eq_some_iff.1 hB).1).trans (cell_of_row _ _ _ _ 3 _ hB);have HC:=hideIt (half_any n a b hn ha hb Z);have HE:Hid (linkN 1 n who a b=(decide ((a:Int) < (n:Int) / 2)==decide ((b:Int) < (n:Int) / 2))):=by
  show _=_;unfold linkN linkedB
  split
  ·rename_i e;rw[e];simp
  ·rw[if_neg (by decide),if_pos rfl]
 generalize linkN 1 n who a b=r at HE ⊢;generalize (decide ((a:Int) < (n:Int) / 2)==decide ((b:Int) < (n:Int) / 2))=q at HE HC;clear hB hn;show Calls Tryz.prog 163 #[.int .i64 (a:Int),.int .i64 (b:Int),.pointer (some ⟨Bc,0,none⟩)] Z _;go_enter Tryz.func163,Tryz.ntmps163
 go_wp2_with fail
 refine HC.out.mono ?_;rintro e w1 ⟨rfl,rfl⟩;go_wp2;go_ret;exact⟨ret_bool HE.out.symm,rfl⟩
set_option maxRecDepth 100000 in
set_option maxHeartbeats 1000000 in
theorem bridge_rule (w:World) (n:Nat) (hn:1≤n∧n≤7) (who:Int) (Bc:Nat) (hB:w.heap[Bc]?=some (.cells #[.int .i64 (n:Int)] 3)):RuleQ w 165 #[.pointer (some ⟨Bc,0,none⟩)] n (linkN 2 n who):=by
 intro Z hZ a b ha hb;have c0:Z.cell? ⟨Bc,0,none⟩=some (.int .i64 (n:Int)):=(hZ.cell (p:=⟨Bc,0,none⟩) (Array.getElem?_eq_some_iff.1 hB).1).trans (cell_of_row _ _ _ _ 3 _ hB);have q1:(n:Int).tdiv 2=(n:Int) / 2:=Int.tdiv_eq_ediv_of_nonneg (by omega);have w1:IntKind.i64.wrap ((n:Int) / 2)=(n:Int) / 2:=IntWalk.i64_in _ (by omega);have HC:=hideIt (half_any n a b hn ha hb Z);have HE:Hid (linkN 2 n who a b=((decide ((a:Int) < (n:Int) / 2)==decide ((b:Int) < (n:Int) / 2))||decide ((a:Int)=(n:Int) / 2)||decide ((b:Int)=(n:Int) / 2))):=by
  show _=_;unfold linkN linkedB
  split
  ·rename_i e;rw[e];simp
  ·rw[if_neg (by decide),if_neg (by decide),if_pos rfl]
 generalize linkN 2 n who a b=r at HE ⊢;generalize (decide ((a:Int) < (n:Int) / 2)==decide ((b:Int) < (n:Int) / 2))=q at HE HC;clear hB hn;show Calls Tryz.prog 165 #[.int .i64 (a:Int),.int .i64 (b:Int),.pointer (some ⟨Bc,0,none⟩)] Z _;generalize (n:Int) / 2=h at*
 generalize (a:Int)=x at*
 generalize (b:Int)=y at*
 by_cases h1:x=h
 ·have h1':(x==h)=true:=by simp[h1]
  have H1:=hideIt h1;clear h1;go_enter Tryz.func165,Tryz.ntmps165
  go_wp2;go_ret;exact⟨ret_bool (by rw[HE.out,H1.out];simp),rfl⟩
 have h1':(x==h)=false:=by simp[h1]
 by_cases h2:y=h
 ·have h2':(y==h)=true:=by simp[h2]
  have H2:=hideIt h2;clear h2;go_enter Tryz.func165,Tryz.ntmps165
  go_wp2;go_ret;exact⟨ret_bool (by rw[HE.out,H2.out];simp),rfl⟩
 have h2':(y==h)=false:=by simp[h2]
 have H1:=hideIt h1;have H2:=hideIt h2;clear h1 h2;go_enter Tryz.func165,Tryz.ntmps165
 go_wp2_with fail
 refine HC.out.mono ?_;rintro e w2 ⟨rfl,rfl⟩;go_wp2;go_ret;exact⟨ret_bool (by rw[HE.out];simp[H1.out,H2.out]),rfl⟩
set_option maxRecDepth 100000 in
set_option maxHeartbeats 1000000 in
theorem ring_rule (w:World) (n:Nat) (hn:1≤n∧n≤7) (who:Int) (Bc:Nat) (hB:w.heap[Bc]?=some (.cells #[.int .i64 (n:Int)] 3)):RuleQ w 166 #[.pointer (some ⟨Bc,0,none⟩)] n (linkN 3 n who):=by
 intro Z hZ a b ha hb;have c0:Z.cell? ⟨Bc,0,none⟩=some (.int .i64 (n:Int)):=(hZ.cell (p:=⟨Bc,0,none⟩) (Array.getElem?_eq_some_iff.1 hB).1).trans (cell_of_row _ _ _ _ 3 _ hB);have q1:(n:Int).tdiv 2=(n:Int) / 2:=Int.tdiv_eq_ediv_of_nonneg (by omega);have q2:((n:Int) / 2+1).tdiv 2=((n:Int) / 2+1) / 2:=Int.tdiv_eq_ediv_of_nonneg (by omega);have w1:IntKind.i64.wrap ((n:Int) / 2)=(n:Int) / 2:=IntWalk.i64_in _ (by omega);have w2:IntKind.i64.wrap ((n:Int) / 2+1)=(n:Int) / 2+1:=IntWalk.i64_in _ (by omega);have w3:IntKind.i64.wrap (((n:Int) / 2+1) / 2)=((n:Int) / 2+1) / 2:=IntWalk.i64_in _ (by omega);have HE:Hid (linkN 3 n who a b=decide (min (if (a:Int) - b < 0 then -((a:Int) - b) else (a:Int) - b) ((n:Int) - (if (a:Int) - b < 0 then -((a:Int) - b) else (a:Int) - b))≤((n:Int) / 2+1) / 2)):=by
  show _=_;unfold linkN linkedB
  split
  ·rename_i e;rw[e];simp;omega
  ·rw[if_neg (by decide),if_neg (by decide),if_neg (by decide),if_pos rfl]
 generalize linkN 3 n who a b=r at HE ⊢;clear hB;show Calls Tryz.prog 166 #[.int .i64 (a:Int),.int .i64 (b:Int),.pointer (some ⟨Bc,0,none⟩)] Z _;go_enter Tryz.func166,Tryz.ntmps166
 go_wp2;all_goals (go_ret;exact⟨ret_bool (by rw[HE.out];refine decide_eq_decide.2 ?_;omega),rfl⟩)
set_option maxRecDepth 100000 in
set_option maxHeartbeats 1000000 in
theorem alone_rule (w:World) (n:Nat) (what who:Int) (hw:what < 0∨4≤what) (Bc:Nat) (hB:w.heap[Bc]?=some (.cells #[.int .i64 who] 3)):RuleQ w 167 #[.pointer (some ⟨Bc,0,none⟩)] n (linkN what n who):=by
 intro Z hZ a b ha hb;have c0:Z.cell? ⟨Bc,0,none⟩=some (.int .i64 who):=(hZ.cell (p:=⟨Bc,0,none⟩) (Array.getElem?_eq_some_iff.1 hB).1).trans (cell_of_row _ _ _ _ 3 _ hB);have HE:Hid (linkN what n who a b=(decide ((a:Int)=(b:Int))||(decide ((a:Int)≠who)&&decide ((b:Int)≠who)))):=by
  show _=_;unfold linkN linkedB
  split
  ·rename_i e;rw[e];simp
  ·rename_i e
   rw[if_neg (by omega),if_neg (by omega),if_neg (by omega),if_neg (by omega),decide_eq_false e,Bool.false_or]
 generalize linkN what n who a b=r at HE ⊢;clear hB hw;show Calls Tryz.prog 167 #[.int .i64 (a:Int),.int .i64 (b:Int),.pointer (some ⟨Bc,0,none⟩)] Z _;generalize (a:Int)=x at*
 generalize (b:Int)=y at*
 by_cases h1:x=y
 ·have h1':(x==y)=true:=by simp[h1]
  have H1:=hideIt h1;clear h1;go_enter Tryz.func167,Tryz.ntmps167
  go_wp2;go_ret;exact⟨ret_bool (by rw[HE.out,H1.out];simp),rfl⟩
 have h1':(x==y)=false:=by simp[h1]
 by_cases h2:x=who
 ·have h2':(x != who)=false:=by simp[h2]
  have H1:=hideIt h1;have H2:=hideIt h2;clear h1 h2;go_enter Tryz.func167,Tryz.ntmps167
  go_wp2;go_ret;exact⟨ret_bool (by rw[HE.out,decide_eq_false H1.out,H2.out];simp),rfl⟩
 have h2':(x != who)=true:=by simp[h2]
 have H1:=hideIt h1;have H2:=hideIt h2;clear h1 h2;go_enter Tryz.func167,Tryz.ntmps167
 go_wp2;go_ret;exact⟨ret_bool (by rw[HE.out];by_cases h3:y=who<;>simp[H1.out,H2.out,h3]),rfl⟩
open Go.RowKit
structure BitsAt (w : World) (g n : Nat) (f : Nat → Bool) : Prop where
 blk:∃cur,w.heap[g]?=some (.cells cur 4 (0,0))
 bit:∀k,k < n→w.cell? ⟨g,k,none⟩=some (.bool (f k))
theorem BitsAt.lt {w:World} {g n:Nat} {f:Nat→Bool} (h:BitsAt w g n f):g < w.heap.size:=by
 obtain⟨cur,hc⟩:=h.blk;exact lt_of_heap hc
theorem BitsAt.fz {w:World} {g n:Nat} {f:Nat→Bool} (h:BitsAt w g n f) (i:Nat):w.frozen? ⟨g,i,none⟩=false:=by
 obtain⟨cur,hc⟩:=h.blk;exact frozen_of_row w g i cur 4 hc
theorem BitsAt.block {w w':World} {g n:Nat} {f:Nat→Bool} (h:BitsAt w g n f) (hb:w'.heap[g]?=w.heap[g]?):BitsAt w' g n f:=by
 obtain⟨cur,hc⟩:=h.blk;exact⟨⟨cur,hb.trans hc⟩,fun k hk=>(World.cell?_of_block (a:=⟨g,k,none⟩) hb).trans (h.bit k hk)⟩
theorem BitsAt.below {B:Nat} {w w':World} {g n:Nat} {f:Nat→Bool} (h:BitsAt w g n f) (hb:Below B w w') (hg:g < B):BitsAt w' g n f:=h.block (hb.block g hg)
theorem BitsAt.same {w:World} {g n:Nat} {f f':Nat→Bool} (h:BitsAt w g n f) (e:∀k,k < n→f k=f' k):BitsAt w g n f':=⟨h.blk,fun k hk=>by rw[←e k hk];exact h.bit k hk⟩
theorem BitsAt.put {w:World} {g n:Nat} {f:Nat→Bool} (h:BitsAt w g n f) {m:Nat} (hm:m < n) (x:Bool):BitsAt (w.setCell ⟨g,m,none⟩ (.bool x)) g n (fun k=>if k=m then x else f k):=by
 obtain⟨cur,hc⟩:=h.blk;obtain⟨cur',hc',_⟩:=heap_setCell hc m (.bool x);refine⟨⟨cur',hc'⟩,fun k hk=>?_⟩;by_cases e:k=m
 ·subst e;rw[if_pos rfl];exact World.cell?_setCell_same _ _ _ (h.bit k hk)
 ·rw[if_neg e,World.cell?_setCell_other _ _ _ _ (offNe (Ne.symm e))];exact h.bit k hk
theorem BitsAt.other {w:World} {g n:Nat} {f:Nat→Bool} (h:BitsAt w g n f) {p:Addr} (hp:g≠p.block) (u:Value):BitsAt (w.setCell p u) g n f:=h.block (Below.heap_setCell w p u g hp)
theorem info4:(Tryz.prog.info? 4).map (fun i=>(i.zero,i.size,i.bytes))=some (some (.bool false),1,1):=by kernel_rfl
theorem info46:(Tryz.prog.info? 266).map (fun i=>(i.zero,i.size,i.bytes))=some (some (.slice none 0 0),1,24):=by kernel_rfl
theorem made_bits (w:World) (n:Nat) (hn:n≤60):(Instr.makeSlice 266 (.int .i64 (n:Int)) (.int .i64 (n:Int))).run Tryz.prog w=.ok (.slice (some ⟨w.heap.size,0,none⟩) n n) (w.alloc (.cells (madeCells #[.bool false] n) 4)):=by
 obtain⟨i,hi,hz,hs,hb⟩:=info_parts' info4;have:=run_make (P:=Tryz.prog) w 266 4 i (.bool false) Tryz.underlying266 hi hz .i64 .i64 (n:Int) (n:Int) (by omega) (Int.le_refl _) (by rw[hb];omega) (by omega);have e:(Value.bool false).cells=#[.bool false]:=rfl;rw[e] at this
 simpa [hs] using this
theorem made_rows (w:World) (n:Nat) (hn:n≤60):(Instr.makeSlice 105 (.int .i64 (n:Int)) (.int .i64 (n:Int))).run Tryz.prog w=.ok (.slice (some ⟨w.heap.size,0,none⟩) n n) (w.alloc (.cells (madeCells #[.slice none 0 0] n) 266)):=by
 obtain⟨i,hi,hz,hs,hb⟩:=info_parts' info46;have:=run_make (P:=Tryz.prog) w 105 266 i (.slice none 0 0) Tryz.underlying105 hi hz .i64 .i64 (n:Int) (n:Int) (by omega) (Int.le_refl _) (by rw[hb];omega) (by omega);have e:(Value.slice none 0 0).cells=#[.slice none 0 0]:=rfl;rw[e] at this
 simpa [hs] using this
theorem bits_made (w:World) (n:Nat):BitsAt (w.alloc (.cells (madeCells #[.bool false] n) 4)) w.heap.size n (fun _=>false):=
 ⟨⟨_,heap_alloc_new w _⟩,fun k hk=>cell_made w (.bool false) n 4 k hk⟩
structure MatAt (w : World) (base B n m : Nat) (rb : Nat → Nat) (M : Nat → Nat → Bool) : Prop where
 blk:∃cur,w.heap[B]?=some (.cells cur 266 (0,0))
 lo:base≤B
 room:∀i,i < n→∃v,w.cell? ⟨B,i,none⟩=some v
 few:m≤n
 head:∀i,i < m→w.cell? ⟨B,i,none⟩=some (.slice (some ⟨rb i,0,none⟩) n n)
 row:∀i,i < m→BitsAt w (rb i) n (M i)
 from_:∀i,i < m→base≤rb i∧rb i≠B
 inj:∀i j,i < m→j < m→rb i=rb j→i=j
section
variable {w : World} {base B n m : Nat} {rb : Nat → Nat} {M : Nat → Nat → Bool}
theorem MatAt.lt (h:MatAt w base B n m rb M):B < w.heap.size:=by
 obtain⟨cur,hc⟩:=h.blk;exact lt_of_heap hc
theorem MatAt.fz (h:MatAt w base B n m rb M) (i:Nat):w.frozen? ⟨B,i,none⟩=false:=by
 obtain⟨cur,hc⟩:=h.blk;exact frozen_of_row w B i cur 266 hc
theorem MatAt.below {w':World} (h:MatAt w base B n m rb M) (hb:Below w.heap.size w w'):MatAt w' base B n m rb M:=by
 obtain⟨cur,hc⟩:=h.blk;have hB:=h.lt;have hcell:∀i,w'.cell? ⟨B,i,none⟩=w.cell? ⟨B,i,none⟩:=fun i=>hb.cell (p:=⟨B,i,none⟩) hB
 exact⟨⟨cur,(hb.block B hB).trans hc⟩,h.lo,fun i hi=>by rw[hcell];exact h.room i hi,h.few,fun i hi=>by rw[hcell];exact h.head i hi,fun i hi=>(h.row i hi).below hb (h.row i hi).lt,h.from_,h.inj⟩
theorem MatAt.alloc (h:MatAt w base B n m rb M) (o:Obj):MatAt (w.alloc o) base B n m rb M:=h.below ((Below.refl _ _).alloc (Nat.le_refl _) o)
theorem MatAt.drew (h:MatAt w base B n m rb M):MatAt w.drew base B n m rb M:=h.below (Below.refl _ _).drew
theorem MatAt.same {M':Nat→Nat→Bool} (h:MatAt w base B n m rb M) (e:∀i k,i < m→k < n→M i k=M' i k):MatAt w base B n m rb M':=
 ⟨h.blk,h.lo,h.room,h.few,h.head,fun i hi=>(h.row i hi).same fun k hk=>e i k hi hk,h.from_,h.inj⟩
theorem MatAt.put (h:MatAt w base B n m rb M) {i k:Nat} (hi:i < m) (hk:k < n) (x:Bool):
  MatAt (w.setCell ⟨rb i,k,none⟩ (.bool x)) base B n m rb (fun a b=>if a=i∧b=k then x else M a b):=by
 obtain⟨cur,hc⟩:=h.blk;have hne:=(h.from_ i hi).2;have hcell:∀j,(w.setCell ⟨rb i,k,none⟩ (.bool x)).cell? ⟨B,j,none⟩=w.cell? ⟨B,j,none⟩:=fun j=>World.cell?_setCell_other _ _ _ _ (blkNe hne)
 refine⟨⟨cur,(Below.heap_setCell w _ _ B (Ne.symm hne)).trans hc⟩,h.lo,fun j hj=>by rw[hcell];exact h.room j hj,h.few,fun j hj=>by rw[hcell];exact h.head j hj,fun j hj=>?_,h.from_,h.inj⟩;by_cases e:j=i
 ·subst e;exact((h.row j hj).put hk x).same fun b hb=>by simp
 ·exact((h.row j hj).other (p:=⟨rb i,k,none⟩) (fun e'=>e (h.inj j i hj hi e')) _).same fun b hb=>by simp[e]
theorem MatAt.add (h:MatAt w base B n m rb M) {g:Nat} {f:Nat→Bool} (hm:m < n) (hg:BitsAt w g n f) (hb:base≤g) (hne:g≠B) (hnew:∀i,i < m→rb i≠g):
  MatAt (w.setCell ⟨B,m,none⟩ (.slice (some ⟨g,0,none⟩) n n)) base B n (m+1) (fun i=>if i=m then g else rb i) (fun i=>if i=m then f else M i):=by
 obtain⟨cur,hc⟩:=h.blk;obtain⟨cur',hc',_⟩:=heap_setCell hc m (.slice (some ⟨g,0,none⟩) n n);have hs:(w.setCell ⟨B,m,none⟩ (.slice (some ⟨g,0,none⟩) n n)).cell? ⟨B,m,none⟩=some (.slice (some ⟨g,0,none⟩) n n):=by
  obtain⟨v,hv⟩:=h.room m hm;exact World.cell?_setCell_same _ _ _ hv
 have ho:∀i,i≠m→(w.setCell ⟨B,m,none⟩ (.slice (some ⟨g,0,none⟩) n n)).cell? ⟨B,i,none⟩=w.cell? ⟨B,i,none⟩:=fun i hi=>World.cell?_setCell_other _ _ _ _ (offNe (Ne.symm hi))
 refine⟨⟨cur',hc'⟩,h.lo,fun i hi=>?_,hm,fun i hi=>?_,fun i hi=>?_,fun i hi=>?_,fun i j hi hj=>?_⟩
 ·by_cases e:i=m
  ·subst e;exact⟨_,hs⟩
  ·rw[ho i e];exact h.room i hi
 ·by_cases e:i=m
  ·subst e;rw[hs,if_pos rfl]
  ·rw[ho i e,if_neg e];exact h.head i (by omega)
 ·by_cases e:i=m
  ·subst e;simp only[if_pos];exact hg.other (p:=⟨B,i,none⟩) hne _
  ·simp only[if_neg e];exact(h.row i (by omega)).other (p:=⟨B,m,none⟩) (h.from_ i (by omega)).2 _
 ·by_cases e:i=m
  ·simp only[e,if_true];exact⟨hb,hne⟩
  ·simp only[if_neg e];exact h.from_ i (by omega)
 ·by_cases e:i=m
  ·by_cases e':j=m
   ·intro _;omega
   ·simp only[e,if_true,if_neg e'];exact fun k=>absurd k.symm (hnew j (by omega))
  ·by_cases e':j=m
   ·simp only[e',if_true,if_neg e];exact fun k=>absurd k (hnew i (by omega))
   ·simp only[if_neg e,if_neg e'];exact h.inj i j (by omega) (by omega)
end
theorem mat_made (w:World) (n:Nat):MatAt (w.alloc (.cells (madeCells #[.slice none 0 0] n) 266)) w.heap.size w.heap.size n 0 (fun _=>0) (fun _ _=>false):=
 ⟨⟨_,heap_alloc_new w _⟩,Nat.le_refl _,fun i hi=>⟨_,cell_made w _ n _ i hi⟩,Nat.zero_le _,fun i hi=>absurd hi (by omega),fun i hi=>absurd hi (by omega),fun i hi=>absurd hi (by omega),fun i j hi=>absurd hi (by omega)⟩
end Go.Proofs.YtjpklmighoondaaGreatDoor.St
