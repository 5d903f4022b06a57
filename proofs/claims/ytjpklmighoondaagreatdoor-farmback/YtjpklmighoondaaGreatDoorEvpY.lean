/-
  Chapter 17, the program's own way, in plain Lean.
  Package net's rules, walked: who can talk to whom.
  Rows of bools in memory: a matrix that is one's own.
  Package net's draw, walked.
  The program's net, walked: who can talk (let).
-/
import Derived.Test.YtjpklmighoondaaGreatDoorRgLY
import Derived.Test.YtjpklmighoondaaGreatDoorFieldsQY
import Derived.Test.YtjpklmighoondaaGreatDoorGnPY
import Derived.Test.YtjpklmighoondaaGreatDoorPlainHY
import Derived.Test.YtjpklmighoondaaGreatDoorJudgeWY
import Derived.Laws.MakeOwn
set_option maxRecDepth 100000
namespace Go.Proofs.YtjpklmighoondaaGreatDoor.St
structure Evp where
 p:Int
 t:Int
 k:Int
 d:Int
 a:Int
 b:Int
 r:Int
structure Pcl where
 at_:Int
 call:Evp
 rd:Int
 cnt:List Int
 kept:Hd
structure Pst where
 n:Nat
 k:Nat
 ask:Nat
 tell:Nat
 back:Bool
 nil:Bool
 lr:Nat→Nat→Bool
 mails:List Mq
 has:Nat→Nat→Hd
 cl:Nat→Pcl
 evs:List Evp
 sts:List Smp
def updP {α:Type} (f:Nat→α) (i:Nat) (x:α):Nat→α:=fun j=>if j=i then x else f j
theorem updP_same {α:Type} (f:Nat→α) (i:Nat) (x:α):updP f i x i=x:=if_pos rfl
theorem updP_ne {α:Type} (f:Nat→α) {i j:Nat} (x:α) (h:j≠i):updP f i x j=f j:=if_neg h
def upd2 {α:Type} (f:Nat→Nat→α) (i q:Nat) (x:α):Nat→Nat→α:=fun j s=>if j=i∧s=q then x else f j s
def newerH (a b:Hd):Hd:=if a.s.lt b.s then b else a
def Pcl.busy (x:Pcl):Bool:=decide (x.at_=1)||decide (x.at_=2)
def busyP (P:Pst):Nat:=(List.range P.k).countP fun j=>(P.cl j).busy
def freeP (P:Pst) (c:Int):Int:=
 if c < 0∨(P.k:Int)≤c then 2 else if (P.cl c.toNat).at_≠0 then 6 else if 120 < P.evs.length+2+busyP P then 4 else 0
def sendP (P:Pst) (m:Mq):Pst:=if P.mails.length < 500 then {P with mails:=P.mails++ [m]} else P
def msgP (n c:Nat) (x:Pcl) (j:Nat):Mq:=⟨(n:Int)+c,j,x.call.k,x.rd,decide (x.at_=2),x.kept.s.t,x.kept.s.c,x.kept.v⟩
def sendsP (P:Pst) (c:Nat) (x:Pcl) (m:Nat):Pst:=(List.range m).foldl (fun P j=>sendP P (msgP P.n c x j)) P
def roundX (x:Pcl) (at_:Int):Pcl:= {x with at_:=at_,rd:=x.rd+1,cnt:= []}
def roundP (P:Pst) (c:Nat) (at_:Int):Pst:=sendsP {P with cl:=updP P.cl c (roundX (P.cl c) at_)} c (roundX (P.cl c) at_) P.n
def seeP (P:Pst) (e:Evp) (s:Smp):Pst:= {P with evs:=P.evs++ [e],sts:=P.sts++ [s]}
def callP (c key:Int) (write:Bool) (value:Int):Evp:=⟨c,1,key,if write then 2 else 1,value,0,0⟩
def beginP (P:Pst) (c:Nat) (key:Int) (write:Bool) (value:Int):Pst:=
 roundP {P with evs:=P.evs++ [callP c key write value],sts:=P.sts++ [zeroS],cl:=updP P.cl c {P.cl c with call:=callP c key write value,kept:=hd0}} c 1
def giveP (P:Pst) (c:Nat):Pst:= {P with evs:=P.evs++ [{(P.cl c).call with t:=4}],sts:=P.sts++ [zeroS],cl:=updP P.cl c {P.cl c with at_:=3}}
def endP (x:Pcl):Evp:=if x.call.d=1 then {x.call with t:=2,r:=x.kept.v} else {x.call with t:=2}
def doneP (P:Pst) (c:Nat):Pst:= {P with evs:=P.evs++ [endP (P.cl c)],sts:=P.sts++ [(P.cl c).kept.s],cl:=updP P.cl c {P.cl c with at_:=0}}
def askedX (c:Nat) (x:Pcl):Pcl:=if x.call.d=2 then {x with kept:=⟨⟨x.kept.s.t+1,c⟩,x.call.a⟩} else x
def askedP (P:Pst) (c:Nat):Pst:=
 if (P.cl c).call.d=2∨P.back=true then roundP {P with cl:=updP P.cl c (askedX c (P.cl c))} c 2 else doneP P c
def mqH (m:Mq):Hd:=⟨⟨m.t,m.c⟩,m.v⟩
def countX (x:Pcl) (m:Mq):Pcl:= {x with cnt:=x.cnt++ [m.fr],kept:=if x.at_=1 then newerH x.kept (mqH m) else x.kept}
def countP_ (P:Pst) (m:Mq):Pst:=
 if (P.cl (m.tt - P.n).toNat).busy=true∧m.rd=(P.cl (m.tt - P.n).toNat).rd∧m.fr∉(P.cl (m.tt - P.n).toNat).cnt then
  if (P.cl (m.tt - P.n).toNat).at_=1 then
   if (P.cl (m.tt - P.n).toNat).cnt.length+1=P.ask then askedP {P with cl:=updP P.cl (m.tt - P.n).toNat (countX (P.cl (m.tt - P.n).toNat) m)} (m.tt - P.n).toNat
   else {P with cl:=updP P.cl (m.tt - P.n).toNat (countX (P.cl (m.tt - P.n).toNat) m)}
  else if (P.cl (m.tt - P.n).toNat).cnt.length+1=P.tell then doneP {P with cl:=updP P.cl (m.tt - P.n).toNat (countX (P.cl (m.tt - P.n).toNat) m)} (m.tt - P.n).toNat
   else {P with cl:=updP P.cl (m.tt - P.n).toNat (countX (P.cl (m.tt - P.n).toNat) m)}
 else P
def answerH (own:Hd) (m:Mq):Hd:=if m.tells=true then newerH own (mqH m) else own
def answerP (P:Pst) (m:Mq):Pst:=
 sendP {P with has:=upd2 P.has m.tt.toNat m.key.toNat (answerH (P.has m.tt.toNat m.key.toNat) m)} ⟨m.tt,m.fr,m.key,m.rd,false,(answerH (P.has m.tt.toNat m.key.toNat) m).s.t,(answerH (P.has m.tt.toNat m.key.toNat) m).s.c,(answerH (P.has m.tt.toNat m.key.toNat) m).v⟩
open Go.RowKit
def RuleQ (w:World) (f:Nat) (caps:Array Value) (n:Nat) (r:Nat→Nat→Bool):Prop:=
 ∀Z,Below w.heap.size w Z→∀a b:Nat,a < n→b < n→Calls Tryz.prog f (#[.int .i64 (a:Int),.int .i64 (b:Int)]++caps) Z fun e w'=>e=.returned (.bool (r a b))∧w'=Z
def linkN (what:Int) (n:Nat) (who:Int) (a b:Nat):Bool:=linkedB what n who a b
set_option maxHeartbeats 1000000 in
theorem half_any (n a b:Nat) (hn:1≤n∧n≤7) (ha:a < n) (_hb:b < n) (Z:World):
  Calls Tryz.prog 164 #[.int .i64 (n:Int),.int .i64 (a:Int),.int .i64 (b:Int)] Z fun e w'=>e=.returned (.bool (decide ((a:Int) < (n:Int) / 2)==decide ((b:Int) < (n:Int) / 2)))∧w'=Z:=by
 have q1:(n:Int).tdiv 2=(n:Int) / 2:=Int.tdiv_eq_ediv_of_nonneg (by omega);have w1:IntKind.i64.wrap ((n:Int) / 2)=(n:Int) / 2:=IntWalk.i64_in _ (by omega);go_enter Tryz.func164,Tryz.ntmps164
 go_wp2;go_ret;exact⟨rfl,rfl⟩
set_option maxHeartbeats 1000000 in
theorem halves_rule (w:World) (n:Nat) (hn:1≤n∧n≤7) (who:Int) (Bc:Nat) (hB:w.heap[Bc]?=some (.cells #[.int .i64 (n:Int)] 3)):RuleQ w 163 #[.pointer (some ⟨Bc,0,none⟩)] n (linkN 1 n who):=by
 intro Z hZ a b ha hb;have c0:Z.cell? ⟨Bc,0,none⟩=some (.int .i64 (n:Int)):=(hZ.cell (p:=⟨Bc,0,none⟩) (Array.getElem?_eq_some_iff.1 hB).1).trans (cell_of_row _ _ _ _ 3 _ hB);have HC:=hideIt (half_any n a b hn ha hb Z);have HE:Hid (linkN 1 n who a b=(decide ((a:Int) < (n:Int) / 2)==decide ((b:Int) < (n:Int) / 2))):=by
  show _=_;unfold linkN linkedB
  split
  ·rename_i e;rw[e];simp
  ·rw[if_neg (by decide),if_pos rfl]
 generalize linkN 1 n who a b=r at HE ⊢;generalize (decide ((a:Int) < (n:Int) / 2)==decide ((b:Int) < (n:Int) / 2))=q at HE HC;clear hB hn;show Calls Tryz.prog 163 #[.int .i64 (a:Int),.int .i64 (b:Int),.pointer (some ⟨Bc,0,none⟩)] Z _;go_enter Tryz.func163,Tryz.ntmps163
 go_wp2_with fail
 refine HC.out.mono ?_;rintro e w1 ⟨rfl,rfl⟩;go_wp2;go_ret;exact⟨ret_bool HE.out.symm,rfl⟩
set_option maxHeartbeats 1000000 in
theorem bridge_rule (w:World) (n:Nat) (hn:1≤n∧n≤7) (who:Int) (Bc:Nat) (hB:w.heap[Bc]?=some (.cells #[.int .i64 (n:Int)] 3)):RuleQ w 165 #[.pointer (some ⟨Bc,0,none⟩)] n (linkN 2 n who):=by
 intro Z hZ a b ha hb;have c0:Z.cell? ⟨Bc,0,none⟩=some (.int .i64 (n:Int)):=(hZ.cell (p:=⟨Bc,0,none⟩) (Array.getElem?_eq_some_iff.1 hB).1).trans (cell_of_row _ _ _ _ 3 _ hB);have q1:(n:Int).tdiv 2=(n:Int) / 2:=Int.tdiv_eq_ediv_of_nonneg (by omega);have w1:IntKind.i64.wrap ((n:Int) / 2)=(n:Int) / 2:=IntWalk.i64_in _ (by omega);have HC:=hideIt (half_any n a b hn ha hb Z);have HE:Hid (linkN 2 n who a b=((decide ((a:Int) < (n:Int) / 2)==decide ((b:Int) < (n:Int) / 2))||decide ((a:Int)=(n:Int) / 2)||decide ((b:Int)=(n:Int) / 2))):=by
  show _=_;unfold linkN linkedB
  split
  ·rename_i e;rw[e];simp
  ·rw[if_neg (by decide),if_neg (by decide),if_pos rfl]
 generalize linkN 2 n who a b=r at HE ⊢;generalize (decide ((a:Int) < (n:Int) / 2)==decide ((b:Int) < (n:Int) / 2))=q at HE HC;clear hB hn;show Calls Tryz.prog 165 #[.int .i64 (a:Int),.int .i64 (b:Int),.pointer (some ⟨Bc,0,none⟩)] Z _;generalize (n:Int) / 2=h at*
 generalize (a:Int)=x at*
 generalize (b:Int)=y at*
 by_cases h1:x=h
 ·have h1':(x==h)=true:=by simp[h1]
  have H1:=hideIt h1;clear h1;go_enter Tryz.func165,Tryz.ntmps165
  go_wp2;go_ret;exact⟨ret_bool (by rw[HE.out,H1.out];simp),rfl⟩
 have h1':(x==h)=false:=by simp[h1]
 by_cases h2:y=h
 ·have h2':(y==h)=true:=by simp[h2]
  have H2:=hideIt h2;clear h2;go_enter Tryz.func165,Tryz.ntmps165
  go_wp2;go_ret;exact⟨ret_bool (by rw[HE.out,H2.out];simp),rfl⟩
 have h2':(y==h)=false:=by simp[h2]
 have H1:=hideIt h1;have H2:=hideIt h2;clear h1 h2;go_enter Tryz.func165,Tryz.ntmps165
 go_wp2_with fail
 refine HC.out.mono ?_;rintro e w2 ⟨rfl,rfl⟩;go_wp2;go_ret;exact⟨ret_bool (by rw[HE.out];simp[H1.out,H2.out]),rfl⟩
set_option maxHeartbeats 1000000 in
theorem ring_rule (w:World) (n:Nat) (hn:1≤n∧n≤7) (who:Int) (Bc:Nat) (hB:w.heap[Bc]?=some (.cells #[.int .i64 (n:Int)] 3)):RuleQ w 166 #[.pointer (some ⟨Bc,0,none⟩)] n (linkN 3 n who):=by
 intro Z hZ a b ha hb;have c0:Z.cell? ⟨Bc,0,none⟩=some (.int .i64 (n:Int)):=(hZ.cell (p:=⟨Bc,0,none⟩) (Array.getElem?_eq_some_iff.1 hB).1).trans (cell_of_row _ _ _ _ 3 _ hB);have q1:(n:Int).tdiv 2=(n:Int) / 2:=Int.tdiv_eq_ediv_of_nonneg (by omega);have q2:((n:Int) / 2+1).tdiv 2=((n:Int) / 2+1) / 2:=Int.tdiv_eq_ediv_of_nonneg (by omega);have w1:IntKind.i64.wrap ((n:Int) / 2)=(n:Int) / 2:=IntWalk.i64_in _ (by omega);have w2:IntKind.i64.wrap ((n:Int) / 2+1)=(n:Int) / 2+1:=IntWalk.i64_in _ (by omega);have w3:IntKind.i64.wrap (((n:Int) / 2+1) / 2)=((n:Int) / 2+1) / 2:=IntWalk.i64_in _ (by omega);have HE:Hid (linkN 3 n who a b=decide (min (if (a:Int) - b < 0 then -((a:Int) - b) else (a:Int) - b) ((n:Int) - (if (a:Int) - b < 0 then -((a:Int) - b) else (a:Int) - b))≤((n:Int) / 2+1) / 2)):=by
  show _=_;unfold linkN linkedB
  split
  ·rename_i e;rw[e];simp;omega
  ·rw[if_neg (by decide),if_neg (by decide),if_neg (by decide),if_pos rfl]
 generalize linkN 3 n who a b=r at HE ⊢;clear hB;show Calls Tryz.prog 166 #[.int .i64 (a:Int),.int .i64 (b:Int),.pointer (some ⟨Bc,0,none⟩)] Z _;go_enter Tryz.func166,Tryz.ntmps166
 go_wp2;all_goals (go_ret;exact⟨ret_bool (by rw[HE.out];refine decide_eq_decide.2 ?_;omega),rfl⟩)
set_option maxHeartbeats 1000000 in
theorem alone_rule (w:World) (n:Nat) (what who:Int) (hw:what < 0∨4≤what) (Bc:Nat) (hB:w.heap[Bc]?=some (.cells #[.int .i64 who] 3)):RuleQ w 167 #[.pointer (some ⟨Bc,0,none⟩)] n (linkN what n who):=by
 intro Z hZ a b ha hb;have c0:Z.cell? ⟨Bc,0,none⟩=some (.int .i64 who):=(hZ.cell (p:=⟨Bc,0,none⟩) (Array.getElem?_eq_some_iff.1 hB).1).trans (cell_of_row _ _ _ _ 3 _ hB);have HE:Hid (linkN what n who a b=(decide ((a:Int)=(b:Int))||(decide ((a:Int)≠who)&&decide ((b:Int)≠who)))):=by
  show _=_;unfold linkN linkedB
  split
  ·rename_i e;rw[e];simp
  ·rename_i e
   rw[if_neg (by omega),if_neg (by omega),if_neg (by omega),if_neg (by omega),decide_eq_false e,Bool.false_or]
 generalize linkN what n who a b=r at HE ⊢;clear hB hw;show Calls Tryz.prog 167 #[.int .i64 (a:Int),.int .i64 (b:Int),.pointer (some ⟨Bc,0,none⟩)] Z _;generalize (a:Int)=x at*
 generalize (b:Int)=y at*
 by_cases h1:x=y
 ·have h1':(x==y)=true:=by simp[h1]
  have H1:=hideIt h1;clear h1;go_enter Tryz.func167,Tryz.ntmps167
  go_wp2;go_ret;exact⟨ret_bool (by rw[HE.out,H1.out];simp),rfl⟩
 have h1':(x==y)=false:=by simp[h1]
 by_cases h2:x=who
 ·have h2':(x != who)=false:=by simp[h2]
  have H1:=hideIt h1;have H2:=hideIt h2;clear h1 h2;go_enter Tryz.func167,Tryz.ntmps167
  go_wp2;go_ret;exact⟨ret_bool (by rw[HE.out,decide_eq_false H1.out,H2.out];simp),rfl⟩
 have h2':(x != who)=true:=by simp[h2]
 have H1:=hideIt h1;have H2:=hideIt h2;clear h1 h2;go_enter Tryz.func167,Tryz.ntmps167
 go_wp2;go_ret;exact⟨ret_bool (by rw[HE.out];by_cases h3:y=who<;>simp[H1.out,H2.out,h3]),rfl⟩
open Go.RowKit
structure BitsAt (w : World) (g n : Nat) (f : Nat → Bool) : Prop where
 blk:∃cur,w.heap[g]?=some (.cells cur 4 (0,0))
 bit:∀k,k < n→w.cell? ⟨g,k,none⟩=some (.bool (f k))
theorem BitsAt.lt {w:World} {g n:Nat} {f:Nat→Bool} (h:BitsAt w g n f):g < w.heap.size:=by
 obtain⟨cur,hc⟩:=h.blk;exact lt_of_heap hc
theorem BitsAt.fz {w:World} {g n:Nat} {f:Nat→Bool} (h:BitsAt w g n f) (i:Nat):w.frozen? ⟨g,i,none⟩=false:=by
 obtain⟨cur,hc⟩:=h.blk;exact frozen_of_row w g i cur 4 hc
theorem BitsAt.block {w w':World} {g n:Nat} {f:Nat→Bool} (h:BitsAt w g n f) (hb:w'.heap[g]?=w.heap[g]?):BitsAt w' g n f:=by
 obtain⟨cur,hc⟩:=h.blk;exact⟨⟨cur,hb.trans hc⟩,fun k hk=>(World.cell?_of_block (a:=⟨g,k,none⟩) hb).trans (h.bit k hk)⟩
theorem BitsAt.below {B:Nat} {w w':World} {g n:Nat} {f:Nat→Bool} (h:BitsAt w g n f) (hb:Below B w w') (hg:g < B):BitsAt w' g n f:=h.block (hb.block g hg)
theorem BitsAt.same {w:World} {g n:Nat} {f f':Nat→Bool} (h:BitsAt w g n f) (e:∀k,k < n→f k=f' k):BitsAt w g n f':=⟨h.blk,fun k hk=>by rw[←e k hk];exact h.bit k hk⟩
theorem BitsAt.put {w:World} {g n:Nat} {f:Nat→Bool} (h:BitsAt w g n f) {m:Nat} (hm:m < n) (x:Bool):BitsAt (w.setCell ⟨g,m,none⟩ (.bool x)) g n (fun k=>if k=m then x else f k):=by
 obtain⟨cur,hc⟩:=h.blk;obtain⟨cur',hc',_⟩:=heap_setCell hc m (.bool x);refine⟨⟨cur',hc'⟩,fun k hk=>?_⟩;by_cases e:k=m
 ·subst e;rw[if_pos rfl];exact World.cell?_setCell_same _ _ _ (h.bit k hk)
 ·rw[if_neg e,World.cell?_setCell_other _ _ _ _ (offNe (Ne.symm e))];exact h.bit k hk
theorem BitsAt.other {w:World} {g n:Nat} {f:Nat→Bool} (h:BitsAt w g n f) {p:Addr} (hp:g≠p.block) (u:Value):BitsAt (w.setCell p u) g n f:=h.block (Below.heap_setCell w p u g hp)
theorem info4:(Tryz.prog.info? 4).map (fun i=>(i.zero,i.size,i.bytes))=some (some (.bool false),1,1):=by kernel_rfl
theorem info46:(Tryz.prog.info? 266).map (fun i=>(i.zero,i.size,i.bytes))=some (some (.slice none 0 0),1,24):=by kernel_rfl
theorem made_bits (w:World) (n:Nat) (hn:n≤60):(Instr.makeSlice 266 (.int .i64 (n:Int)) (.int .i64 (n:Int))).run Tryz.prog w=.ok (.slice (some ⟨w.heap.size,0,none⟩) n n) (w.alloc (.cells (madeCells #[.bool false] n) 4)):=by
 obtain⟨i,hi,hz,hs,hb⟩:=info_parts' info4;have:=run_make (P:=Tryz.prog) w 266 4 i (.bool false) Tryz.underlying266 hi hz .i64 .i64 (n:Int) (n:Int) (by omega) (Int.le_refl _) (by rw[hb];omega) (by omega);have e:(Value.bool false).cells=#[.bool false]:=rfl;rw[e] at this
 simpa [hs] using this
theorem made_rows (w:World) (n:Nat) (hn:n≤60):(Instr.makeSlice 105 (.int .i64 (n:Int)) (.int .i64 (n:Int))).run Tryz.prog w=.ok (.slice (some ⟨w.heap.size,0,none⟩) n n) (w.alloc (.cells (madeCells #[.slice none 0 0] n) 266)):=by
 obtain⟨i,hi,hz,hs,hb⟩:=info_parts' info46;have:=run_make (P:=Tryz.prog) w 105 266 i (.slice none 0 0) Tryz.underlying105 hi hz .i64 .i64 (n:Int) (n:Int) (by omega) (Int.le_refl _) (by rw[hb];omega) (by omega);have e:(Value.slice none 0 0).cells=#[.slice none 0 0]:=rfl;rw[e] at this
 simpa [hs] using this
theorem bits_made (w:World) (n:Nat):BitsAt (w.alloc (.cells (madeCells #[.bool false] n) 4)) w.heap.size n (fun _=>false):=
 ⟨⟨_,heap_alloc_new w _⟩,fun k hk=>cell_made w (.bool false) n 4 k hk⟩
structure MatAt (w : World) (base B n m : Nat) (rb : Nat → Nat) (M : Nat → Nat → Bool) : Prop where
 blk:∃cur,w.heap[B]?=some (.cells cur 266 (0,0))
 lo:base≤B
 room:∀i,i < n→∃v,w.cell? ⟨B,i,none⟩=some v
 few:m≤n
 head:∀i,i < m→w.cell? ⟨B,i,none⟩=some (.slice (some ⟨rb i,0,none⟩) n n)
 row:∀i,i < m→BitsAt w (rb i) n (M i)
 from_:∀i,i < m→base≤rb i∧rb i≠B
 inj:∀i j,i < m→j < m→rb i=rb j→i=j
section
variable {w : World} {base B n m : Nat} {rb : Nat → Nat} {M : Nat → Nat → Bool}
theorem MatAt.lt (h:MatAt w base B n m rb M):B < w.heap.size:=by
 obtain⟨cur,hc⟩:=h.blk;exact lt_of_heap hc
theorem MatAt.fz (h:MatAt w base B n m rb M) (i:Nat):w.frozen? ⟨B,i,none⟩=false:=by
 obtain⟨cur,hc⟩:=h.blk;exact frozen_of_row w B i cur 266 hc
theorem MatAt.below {w':World} (h:MatAt w base B n m rb M) (hb:Below w.heap.size w w'):MatAt w' base B n m rb M:=by
 obtain⟨cur,hc⟩:=h.blk;have hB:=h.lt;have hcell:∀i,w'.cell? ⟨B,i,none⟩=w.cell? ⟨B,i,none⟩:=fun i=>hb.cell (p:=⟨B,i,none⟩) hB
 exact⟨⟨cur,(hb.block B hB).trans hc⟩,h.lo,fun i hi=>by rw[hcell];exact h.room i hi,h.few,fun i hi=>by rw[hcell];exact h.head i hi,fun i hi=>(h.row i hi).below hb (h.row i hi).lt,h.from_,h.inj⟩
theorem MatAt.alloc (h:MatAt w base B n m rb M) (o:Obj):MatAt (w.alloc o) base B n m rb M:=h.below ((Below.refl _ _).alloc (Nat.le_refl _) o)
theorem MatAt.drew (h:MatAt w base B n m rb M):MatAt w.drew base B n m rb M:=h.below (Below.refl _ _).drew
theorem MatAt.same {M':Nat→Nat→Bool} (h:MatAt w base B n m rb M) (e:∀i k,i < m→k < n→M i k=M' i k):MatAt w base B n m rb M':=
 ⟨h.blk,h.lo,h.room,h.few,h.head,fun i hi=>(h.row i hi).same fun k hk=>e i k hi hk,h.from_,h.inj⟩
theorem MatAt.put (h:MatAt w base B n m rb M) {i k:Nat} (hi:i < m) (hk:k < n) (x:Bool):
  MatAt (w.setCell ⟨rb i,k,none⟩ (.bool x)) base B n m rb (fun a b=>if a=i∧b=k then x else M a b):=by
 obtain⟨cur,hc⟩:=h.blk;have hne:=(h.from_ i hi).2;have hcell:∀j,(w.setCell ⟨rb i,k,none⟩ (.bool x)).cell? ⟨B,j,none⟩=w.cell? ⟨B,j,none⟩:=fun j=>World.cell?_setCell_other _ _ _ _ (blkNe hne)
 refine⟨⟨cur,(Below.heap_setCell w _ _ B (Ne.symm hne)).trans hc⟩,h.lo,fun j hj=>by rw[hcell];exact h.room j hj,h.few,fun j hj=>by rw[hcell];exact h.head j hj,fun j hj=>?_,h.from_,h.inj⟩;by_cases e:j=i
 ·subst e;exact((h.row j hj).put hk x).same fun b hb=>by simp
 ·exact((h.row j hj).other (p:=⟨rb i,k,none⟩) (fun e'=>e (h.inj j i hj hi e')) _).same fun b hb=>by simp[e]
theorem MatAt.add (h:MatAt w base B n m rb M) {g:Nat} {f:Nat→Bool} (hm:m < n) (hg:BitsAt w g n f) (hb:base≤g) (hne:g≠B) (hnew:∀i,i < m→rb i≠g):
  MatAt (w.setCell ⟨B,m,none⟩ (.slice (some ⟨g,0,none⟩) n n)) base B n (m+1) (fun i=>if i=m then g else rb i) (fun i=>if i=m then f else M i):=by
 obtain⟨cur,hc⟩:=h.blk;obtain⟨cur',hc',_⟩:=heap_setCell hc m (.slice (some ⟨g,0,none⟩) n n);have hs:(w.setCell ⟨B,m,none⟩ (.slice (some ⟨g,0,none⟩) n n)).cell? ⟨B,m,none⟩=some (.slice (some ⟨g,0,none⟩) n n):=by
  obtain⟨v,hv⟩:=h.room m hm;exact World.cell?_setCell_same _ _ _ hv
 have ho:∀i,i≠m→(w.setCell ⟨B,m,none⟩ (.slice (some ⟨g,0,none⟩) n n)).cell? ⟨B,i,none⟩=w.cell? ⟨B,i,none⟩:=fun i hi=>World.cell?_setCell_other _ _ _ _ (offNe (Ne.symm hi))
 refine⟨⟨cur',hc'⟩,h.lo,fun i hi=>?_,hm,fun i hi=>?_,fun i hi=>?_,fun i hi=>?_,fun i j hi hj=>?_⟩
 ·by_cases e:i=m
  ·subst e;exact⟨_,hs⟩
  ·rw[ho i e];exact h.room i hi
 ·by_cases e:i=m
  ·subst e;rw[hs,if_pos rfl]
  ·rw[ho i e,if_neg e];exact h.head i (by omega)
 ·by_cases e:i=m
  ·subst e;simp only[if_pos];exact hg.other (p:=⟨B,i,none⟩) hne _
  ·simp only[if_neg e];exact(h.row i (by omega)).other (p:=⟨B,m,none⟩) (h.from_ i (by omega)).2 _
 ·by_cases e:i=m
  ·simp only[e,if_true];exact⟨hb,hne⟩
  ·simp only[if_neg e];exact h.from_ i (by omega)
 ·by_cases e:i=m
  ·by_cases e':j=m
   ·intro _;omega
   ·simp only[e,if_true,if_neg e'];exact fun k=>absurd k.symm (hnew j (by omega))
  ·by_cases e':j=m
   ·simp only[e',if_true,if_neg e];exact fun k=>absurd k (hnew i (by omega))
   ·simp only[if_neg e,if_neg e'];exact h.inj i j (by omega) (by omega)
end
theorem mat_made (w:World) (n:Nat):MatAt (w.alloc (.cells (madeCells #[.slice none 0 0] n) 266)) w.heap.size w.heap.size n 0 (fun _=>0) (fun _ _=>false):=
 ⟨⟨_,heap_alloc_new w _⟩,Nat.le_refl _,fun i hi=>⟨_,cell_made w _ n _ i hi⟩,Nat.zero_le _,fun i hi=>absurd hi (by omega),fun i hi=>absurd hi (by omega),fun i hi=>absurd hi (by omega),fun i j hi=>absurd hi (by omega)⟩
end Go.Proofs.YtjpklmighoondaaGreatDoor.St
namespace Go.Proofs.YtjpklmighoondaaGreatDoor.St
open Go.RowKit
def midB (A:Nat→Nat→Bool) (m k:Nat):Nat→Nat→Bool:=fun a b=>if a=m∧k≤b then false else A a b
theorem midB_put (A:Nat→Nat→Bool) (m k:Nat) (x:Bool) (h:A m k=x) (a b:Nat):(if a=m∧b=k then x else midB A m k a b)=midB A m (k+1) a b:=by
 unfold midB;by_cases e:a=m∧b=k
 ·obtain⟨rfl,rfl⟩:=e;rw[if_pos ⟨rfl,rfl⟩,if_neg (by omega),h]
 ·rw[if_neg e];by_cases e':a=m∧k+1≤b
  ·rw[if_pos (by omega),if_pos e']
  ·rw[if_neg (by omega),if_neg e']
theorem midB_end (A:Nat→Nat→Bool) (m n a b:Nat) (hb:b < n):midB A m n a b=A a b:=by
 unfold midB;rw[if_neg (by omega)]
theorem MatAt.links {w:World} {base B n:Nat} {rb:Nat→Nat} {M:Nat→Nat→Bool} (h:MatAt w base B n n rb M):LnkS w (fun b=>base≤b∧LTg w b) (.slice (some ⟨B,0,none⟩) n n) (tabL n M):=by
 refine⟨_,n,by rw[tabL_len],.inr ⟨B,0,rfl,⟨h.lo,.inl (by obtain⟨_,e⟩:=h.blk;rw[e];rfl)⟩,fun i hi=>?_⟩⟩;have hi':i < n:=by rwa [tabL_len] at hi
 refine⟨_,n,by rw[Nat.zero_add,tabL_row_len];exact h.head i hi',.inr ⟨rb i,0,rfl,⟨(h.from_ i hi').1,.inr (by obtain⟨_,e⟩:=(h.row i hi').blk;rw[e];rfl)⟩,fun j hj=>?_⟩⟩;rw[tabL_at,Nat.zero_add];exact(h.row i hi').bit j (by rwa [tabL_row_len] at hj)
def DrawTold (w:World) (n:Nat) (r:Nat→Nat→Bool) (e:Ending) (w':World):Prop:=∃lv,e=.returned (.tuple #[lv,.nilIface])∧LnkS w' (fun b=>w.heap.size≤b∧LTg w' b) lv (tabL n r)∧Below w.heap.size w w'
theorem draw_bad (x:Int) (F:Value) (hx:x < 1∨7 < x) (w:World):Calls Tryz.prog 162 #[.int .i64 x,F] w fun e w'=>e=.returned (.tuple #[.slice none 0 0,.iface 55 (.int .i64 4)])∧w'=w:=by
 rcases hx with hx | hx
 ·have h1:decide (x < 1)=true:=decide_eq_true hx;go_enter Tryz.func162,Tryz.ntmps162
  go_wp2;go_ret2;exact⟨rfl,rfl⟩
 ·have h1:decide (x < 1)=false:=decide_eq_false (by omega);have h2:decide (x > 7)=true:=decide_eq_true hx;go_enter Tryz.func162,Tryz.ntmps162
  go_wp2;go_ret2;exact⟨rfl,rfl⟩
set_option maxHeartbeats 4000000 in
theorem draw_any (n:Nat) (hn:1≤n∧n≤7) (f:Nat) (caps:Array Value) (r:Nat→Nat→Bool) (w:World) (hF:RuleQ w f caps n r) (eg:∀args w,(callFunc f args).run Tryz.prog w=.ok (.enter f args) w):
  Calls Tryz.prog 162 #[.int .i64 (n:Int),.func (.func f) #[] caps] w fun e w'=>DrawTold w n r e w':=by
 have HF:=hideIt hF;clear hF;have h1:decide ((n:Int) < 1)=false:=decide_eq_false (by omega);have h2:decide ((n:Int) > 7)=false:=decide_eq_false (by omega);have hmk:=made_rows w n (by omega);have HM0:Hid (MatAt (w.alloc (.cells (madeCells #[.slice none 0 0] n) 266)) w.heap.size w.heap.size n 0 (fun _=>0) r):=(mat_made w n).same fun i k hi=>absurd hi (by omega)
 have HB0:Hid (Below w.heap.size w (w.alloc (.cells (madeCells #[.slice none 0 0] n) 266))):=belA (Below.refl _ _) _;go_enter Tryz.func162,Tryz.ntmps162
 go_wp2;clear h1 h2 hmk;generalize w.alloc _=W1 at HM0 HB0 ⊢
 go_loopw [20] (fun v wr=>∃(m:Nat) (cb:Nat→Nat),m≤n∧v=.int .i64 m∧MatAt wr w.heap.size w.heap.size n m cb r∧Below w.heap.size w wr) (fun v _=>n - (intOf v).toNat)
 case atStart=>exact⟨0,_,Nat.zero_le _,rfl,HM0.out,HB0.out⟩
 case round=>
  clear HM0 HB0 W1;obtain⟨m,cb,hm,rfl,hM,hb⟩:=hrel;have HM:=hideIt hM;have HB:=hideIt hb;clear hM hb;by_cases hmn:m < n
  ·have hmn':(m:Int) < n:=by omega
   have hmk:=made_bits wr n (by omega);have HMa:=hideIt (HM.out.alloc (.cells (madeCells #[.bool false] n) 4));have HN1:=hideIt (bits_made wr n);have hBl:=HM.out.lt;have hBs:=HB.out.size;obtain⟨ov,hov⟩:=HMa.out.room m hmn;have hfz:=HMa.out.fz m;have HB1:Hid (Below w.heap.size w ((wr.alloc (.cells (madeCells #[.bool false] n) 4)).setCell ⟨w.heap.size,m,none⟩ (.slice (some ⟨wr.heap.size,0,none⟩) n n))):=(belA HB.out _).setCell (p:=⟨w.heap.size,m,none⟩) (Nat.le_refl _) _;have HM2:Hid (MatAt ((wr.alloc (.cells (madeCells #[.bool false] n) 4)).setCell ⟨w.heap.size,m,none⟩ (.slice (some ⟨wr.heap.size,0,none⟩) n n)) w.heap.size w.heap.size n (m+1) (fun i=>if i=m then wr.heap.size else cb i) (midB r m 0)):=
    (HMa.out.add hmn HN1.out hBs (by omega) (fun i hi=>Nat.ne_of_lt (HM.out.row i hi).lt)).same fun i k _ _=>by
     unfold midB;by_cases e:i=m
     ·rw[if_pos e,if_pos ⟨e,Nat.zero_le _⟩]
     ·rw[if_neg e,if_neg (fun h=>e h.1)]
   rw[World.setCell_alloc_past _ _ _ _ hBl] at HM2 HB1;have hc2:=HM2.out.head m (Nat.lt_succ_self m);rw[if_pos rfl] at hc2;clear HMa HN1 HM;go_wp2;clear hmk hov hfz hc2;generalize (wr.setCell _ _).alloc _=W2 at HB1 HM2 ⊢;obtain⟨cb1,HM2⟩:∃cb1,Hid (MatAt W2 w.heap.size w.heap.size n (m+1) cb1 (midB r m 0)):=⟨_,HM2⟩;clear HB hBl hBs
   go_loopw [33] (fun v wz=>∃k:Nat,k≤n∧v=.int .i64 k∧MatAt wz w.heap.size w.heap.size n (m+1) cb1 (midB r m k)∧Below w.heap.size w wz) (fun v _=>n - (intOf v).toNat)
   case atStart=>exact⟨0,Nat.zero_le _,rfl,HM2.out,HB1.out⟩
   case round=>
    clear HM2 HB1;obtain⟨k,hk,rfl,hM,hb⟩:=hrel;have HM:=hideIt hM;have HB:=hideIt hb;clear hM hb;by_cases hkn:k < n
    ·have hkn':(k:Int) < n:=by omega
     have hge:=(HM.out.from_ m (by omega)).1;have HPut:Hid (∀Z:World,Below wr.heap.size wr Z→(MatAt (Z.setCell ⟨cb1 m,k,none⟩ (.bool (r m k))) w.heap.size w.heap.size n (m+1) cb1 (midB r m (k+1))∧Below w.heap.size w (Z.setCell ⟨cb1 m,k,none⟩ (.bool (r m k))))∧Z.cell? ⟨cb1 m,k,none⟩=some (.bool (midB r m k m k))∧Z.frozen? ⟨cb1 m,k,none⟩=false):=fun Z hZ=>
      ⟨⟨((HM.out.below hZ).put (by omega) hkn _).same fun i b _ _=>midB_put r m k _ rfl i b,(belJ HB.out hZ).setCell (p:=⟨cb1 m,k,none⟩) hge _⟩,((HM.out.below hZ).row m (by omega)).bit k hkn,((HM.out.below hZ).row m (by omega)).fz k⟩
     have HC0:Hid (∀Z,Below wr.heap.size wr Z→Z.cell? ⟨w.heap.size,m,none⟩=some (.slice (some ⟨cb1 m,0,none⟩) n n)):=fun Z hZ=>(HM.out.below hZ).head m (by omega)
     have HFk:Hid (∀Z,Below wr.heap.size wr Z→Calls Tryz.prog f (#[.int .i64 (m:Int),.int .i64 (k:Int)]++caps) Z fun e w'=>e=.returned (.bool (r m k))∧w'=Z):=fun Z hZ=>HF.out Z (belJ HB.out hZ) m k hmn hkn
     go_wp2_with fail
     refine wp_region_L (B:= [10]) (S:=fun _=>True) (T:=fun Z=>Below wr.heap.size wr Z) (by kernel_rfl) ⟨trivial,(Below.refl _ _).drew⟩ (fun hHeld=>?_);refine tkS 0 ?_ rfl ?_ ?_;rotate_left 1
     ·intro wz _;go_simp;all_goals with_reducible rfl
     simp only[Act.put,p1,p2,p3,p4,p5];refine tkS 1 ?_ rfl ?_ ?_;rotate_left 1
     ·intro wz _;go_simp;all_goals with_reducible rfl
     simp only[Act.put,p1,p2,p3,p4,p5,p6];refine tkS 2 ?_ rfl ?_ ?_;rotate_left 1
     ·intro wz _;go_simp;all_goals with_reducible rfl
     simp only[Act.put,p1,p2,p3,p4,p5,p6];refine tkL [9,10] 3 ?_ rfl ?_ ?_;rotate_left 1
     ·intro wz sb;have y0:=HC0.out wz sb.2;go_simp;all_goals with_reducible rfl
     simp only[Act.put,p1,p2,p3,p4,p5,p6];refine tkS 4 ?_ rfl ?_ ?_;rotate_left 1
     ·intro wz _;go_simp;all_goals with_reducible rfl
     simp only[Act.put,p1,p2,p3,p4,p5,p6];refine tkS 5 ?_ rfl ?_ ?_;rotate_left 1
     ·intro wz _;go_simp;all_goals with_reducible rfl
     simp only[Act.put,p1,p2,p3,p4,p5,p6];refine tkS 6 ?_ rfl ?_ ?_;rotate_left 1
     ·intro wz _;go_simp;all_goals with_reducible rfl
     simp only[Act.put,p1,p2,p3,p4,p5,p6];refine tkS 7 ?_ rfl ?_ ?_;rotate_left 1
     ·intro wz _;go_simp;all_goals with_reducible rfl
     simp only[Act.put,p1,p2,p3,p4,p5,p6];have egk:=eg (#[.int .i64 (m:Int),.int .i64 (k:Int)]++caps) wr.drew;refine wpAnyL_ready (rs:= [8]) (by kernel_rfl) (by simp) (AllReadyL.cons rfl (fun K hK=>?_) AllReadyL.nil);go_simp;refine(HFk.out _ hHeld.2).mono ?_;rintro e V3 ⟨rfl,rfl⟩;refine hK.out _ _ ⟨trivial,hHeld.2⟩ (fun hHeld=>?_);clear hK K;refine tkS 9 ?_ rfl ?_ ?_;rotate_left 1
     ·intro wz _;go_simp;all_goals with_reducible rfl
     simp only[Act.put,p1,p2,p3,p4,p5,p6];obtain⟨hp1,hp2,hp3⟩:=HPut.out _ hHeld.2;have R1:=hideIt hp1;clear hp1 HPut HC0 HFk;generalize midB r m k m k=old at hp2;refine wpAnyL_ready (rs:= [10]) (by kernel_rfl) (by simp) (AllReadyL.last rfl (by kernel_rfl) (fun K hK=>?_) AllReadyL.nil);go_simp;refine hK.out _ _ trivial (fun _=>?_);clear hK K hHeld;refine wpAnyL_done (by kernel_rfl) ?_ _;go_wp2
     go_roundw
     case rel=>exact⟨k+1,by omega,by go_num,R1.out⟩
     case measure=>simp[intOf];omega
    ·obtain rfl:k=n:=by omega
     have R1:Hid (MatAt wr w.heap.size w.heap.size k (m+1) cb1 r):=HM.out.same fun i b _ hb=>midB_end _ _ _ _ _ hb
     go_wp2
     go_roundw
     case rel=>exact⟨m+1,cb1,by omega,by go_num,R1.out,HB.out⟩
     case measure=>simp[intOf];omega
  ·obtain rfl:m=n:=by omega
   go_wp2;go_ret2;exact⟨_,rfl,HM.out.links,HB.out⟩
open Go.RowKit
def letL (nil:Bool) (M:List (List Bool)) (a b:Int):Bool:=
 if nil=true then true else if 0≤a∧0≤b then ((M[a.toNat]?).bind fun r=>r[b.toNat]?).getD false else false
theorem nilEqL (w:World):(binOp .eql 105 (.slice none 0 0) (.slice none 0 0)).run Tryz.prog w=.ok (.bool true) w:=by kernel_rfl
theorem nilNeL (w:World) (a:Addr) (n c:Nat):(binOp .eql 105 (.slice (some a) n c) (.slice none 0 0)).run Tryz.prog w=.ok (.bool false) w:=by kernel_rfl
def LnkN (w:World) (X:Nat→Prop) (lv:Value) (nil:Bool) (M:List (List Bool)):Prop:=(nil=true∧lv=.slice none 0 0)∨(nil=false∧LnkS w X lv M∧∃a n c,lv=.slice (some a) n c)
theorem LnkN.keep {w w':World} {X:Nat→Prop} {lv:Value} {nil:Bool} {M:List (List Bool)} (h:LnkN w X lv nil M) (hk:∀b,b < w.heap.size→X b→w'.heap[b]?=w.heap[b]?):LnkN w' X lv nil M:=
 h.imp id fun⟨e,h1,h2⟩=>⟨e,h1.keep hk,h2⟩
theorem LnkN.below {w w':World} {X:Nat→Prop} {lv:Value} {nil:Bool} {M:List (List Bool)} (h:LnkN w X lv nil M) (hb:Below w.heap.size w w'):LnkN w' X lv nil M:=
 h.keep fun b hl _=>hb.block b hl
set_option maxHeartbeats 4000000 in
theorem plet_any (x y:Int) (X:Nat→Prop) (lv:Value) (nil:Bool) (M:List (List Bool)) (w:World) (h:LnkN w X lv nil M):
  Calls Tryz.prog 153 #[lv,.int .i64 x,.int .i64 y] w fun e w'=>e=.returned (.bool (letL nil M x y))∧w'=w:=by
 rcases h with ⟨rfl,rfl⟩ | ⟨rfl,hl,la,ln,lc,rfl⟩
 ·have hn:=nilEqL w;go_enter Tryz.func153,Tryz.ntmps153
  go_wp2;go_ret;exact⟨ret_bool rfl,rfl⟩
 have hn:=nilNeL w la ln lc;obtain⟨a0,cap0,e0,hr⟩:=hl;cases e0;by_cases hx:0≤x
 ·have hx':decide (x≥0)=true:=decide_eq_true hx;by_cases hxl:x < M.length
  ·have hxl':decide (x < (M.length:Int))=true:=decide_eq_true hxl;by_cases hy:0≤y
   ·have hy':decide (y≥0)=true:=decide_eq_true hy;obtain⟨g,off,e1,_,hr2⟩:=hr.resolve_left (fun e=>by rw[e] at hxl;simp at hxl;omega);obtain rfl:=Option.some.inj e1;obtain⟨i,rfl⟩:∃i:Nat,x=i:=⟨x.toNat,by omega⟩;have hil:i < M.length:=by omega
    obtain⟨ra,rc,h1,h2⟩:=hr2 i hil;have ho:letL false M i y=((M[i])[y.toNat]?).getD false:=by
     unfold letL;rw[if_neg (by decide),if_pos ⟨hx,hy⟩,Int.toNat_natCast,List.getElem?_eq_getElem hil];rfl
    rw[ho];generalize M[i]=row at h1 h2;clear hr hr2 ho e1;by_cases hyl:y < row.length
    ·have hyl':decide (y < (row.length:Int))=true:=decide_eq_true hyl;obtain⟨rg,ro,rfl,_,h4⟩:=h2.resolve_left (fun e=>by rw[e] at hyl;simp at hyl;omega);obtain⟨j,rfl⟩:∃j:Nat,y=j:=⟨y.toNat,by omega⟩;have hjl:j < row.length:=by omega
     have h3:=h4 j hjl;rw[Int.toNat_natCast,List.getElem?_eq_getElem hjl];generalize row[j]=bit at h3;clear h2 h4;go_enter Tryz.func153,Tryz.ntmps153
     go_wp2;go_ret;exact⟨ret_bool rfl,rfl⟩
    ·have hyl':decide (y < (row.length:Int))=false:=decide_eq_false hyl;have e3:row[y.toNat]?=none:=List.getElem?_eq_none (by omega);rw[e3];clear h2;go_enter Tryz.func153,Tryz.ntmps153
     go_wp2;go_ret;exact⟨ret_bool rfl,rfl⟩
   ·have hy':decide (y≥0)=false:=decide_eq_false hy;have ho:letL false M x y=false:=by
     unfold letL;rw[if_neg (by decide),if_neg (fun h=>hy h.2)]
    rw[ho];clear hr;go_enter Tryz.func153,Tryz.ntmps153
    go_wp2;go_ret;exact⟨ret_bool rfl,rfl⟩
  ·have hxl':decide (x < (M.length:Int))=false:=decide_eq_false hxl;have ho:letL false M x y=false:=by
    unfold letL;rw[if_neg (by decide)]
    split
    ·rw[List.getElem?_eq_none (by omega)];rfl
    ·rfl
   rw[ho];clear hr;go_enter Tryz.func153,Tryz.ntmps153
   go_wp2;go_ret;exact⟨ret_bool rfl,rfl⟩
 ·have hx':decide (x≥0)=false:=decide_eq_false hx;have ho:letL false M x y=false:=by
   unfold letL;rw[if_neg (by decide),if_neg (fun h=>hx h.1)]
  rw[ho];clear hr;go_enter Tryz.func153,Tryz.ntmps153
  go_wp2;go_ret;exact⟨ret_bool rfl,rfl⟩
end Go.Proofs.YtjpklmighoondaaGreatDoor.St
