/-
  What is read: how deep it is, and how much of a tape it uses.
  Chapter 20 in plain Lean: a plan that is tried.
  The program's store, walked: New.
-/
import Derived.Test.YtjpklmighoondaaGreatDoorSwMY
import Derived.Test.YtjpklmighoondaaGreatDoorGnHY
import Derived.Test.YtjpklmighoondaaGreatDoorFieldsQY
set_option maxRecDepth 100000
namespace Go.Proofs.YtjpklmighoondaaGreatDoor.Gn
def wt1 (f:Nat) (l:List Gt):Nat:=(l.map fun g=>1+wtF f g).sum
def Reads (f:Nat) (gf:List BtP→Option Rg):Prop:=∀s r,gf s=some r→htLe f r.g∧wtF f r.g+r.s.length+1≤s.length
theorem moreF_wt {f:Nat} {gf:List BtP→Option Rg} (hg:Reads f gf):∀(m:Nat) (L:List Gt) (s:List BtP) (r:Rl),moreF gf m L s=some r→(∀g∈L,htLe f g)→(∀g∈r.l,htLe f g)∧wt1 f r.l+r.s.length≤wt1 f L+s.length
 | 0,_,_,_,h,_=>by cases h
 | _+1,_,[],_,h,_=>by cases h
 | m+1,L,t::s,r,h,hL=>by
  simp only[moreF] at h
  split at h
  ·split at h
   ·rename_i q hq
    have h1:=hg _ _ hq;have h2:=moreF_wt hg m _ _ _ h (fun g hg'=>by
     rcases List.mem_append.1 hg' with h' | h'
     ·exact hL g h'
     ·rw[List.mem_singleton] at h';rw[h'];exact h1.1)
    refine⟨h2.1,?_⟩;have e:wt1 f (L++ [q.g])=wt1 f L+(1+wtF f q.g):=by simp[wt1]
    have h3:=h2.2;rw[e] at h3;have h4:=h1.2;simp only[List.length_cons];omega
   ·cases h
  ·cases h;exact⟨hL,Nat.le_refl _⟩
theorem listF_wt {f:Nat} {gf:List BtP→Option Rg} (hg:Reads f gf) {s:List BtP} {r:Rl} (h:listF gf s=some r):(∀g∈r.l,htLe f g)∧wt1 f r.l+r.s.length+1≤s.length:=by
 rw[listF_eq] at h
 split at h
 ·cases h
 ·rename_i s1 h1
  split at h
  ·cases h
  ·rename_i q hq
   have k1:=expF_len h1;have k2:=hg _ _ hq;unfold finL at h
   split at h
   ·cases h
   ·rename_i z hz
    have k3:=moreF_wt hg _ _ _ _ hz (fun g hg'=>by rw[List.mem_singleton] at hg';rw[hg'];exact k2.1)
    split at h
    ·cases h
    ·rename_i y hy
     have k4:=expF_len hy;cases h;refine⟨k3.1,?_⟩;have e:wt1 f [q.g]=1+wtF f q.g:=by simp[wt1]
     have h3:=k3.2;rw[e] at h3;have h4:=k2.2;show wt1 f z.l+y.length+1≤s.length;omega
theorem wrF_wt {f:Nat} {s:List BtP} {r:Rg} (h:wrF s=some r):htLe (f+1) r.g∧wtF (f+1) r.g+r.s.length+1≤s.length:=by
 unfold wrF at h
 split at h
 ·cases h
 ·rename_i k hk
  split at h
  ·cases h
  ·rename_i l hl
   split at h
   ·cases h
   ·rename_i t ht
    have a:=(numF_len hk).1;have b:=(numF_len hl).1;have c:=(numF_len ht).1;cases h;refine⟨trivial,?_⟩;show 1+t.s.length+1≤s.length;omega
theorem sum_le (f:Nat):∀l:List Gt,(l.map (wtF f)).sum≤wt1 f l
 | []=>Nat.le_refl _
 | g::l=>by have:=sum_le f l;simp only[wt1,List.map_cons,List.sum_cons] at this ⊢;omega
theorem gF_reads:∀f,Reads f (gF f)
 | 0,_,_,h=>by cases h
 | _+1,[],_,h=>by cases h
 | f+1,t::s,r,h=>by
  have ih:=gF_reads f;simp only[gF] at h;simp only[List.length_cons]
  split at h
  ·split at h
   ·cases h
   ·rename_i k hk
    have:=(numF_len hk).1;cases h;refine⟨trivial,?_⟩;show 0+k.s.length+1≤_;omega
  ·split at h
   ·have:=wrF_wt (f:=f) h;exact⟨this.1,by omega⟩
   ·split at h
    ·split at h
     ·cases h
     ·rename_i k hk
      have a:=(numF_len hk).1
      split at h
      ·cases h
      ·rename_i q hq
       have b:=ih _ _ hq;cases h;refine⟨b.1,?_⟩;have b2:=b.2;show wtF f q.g+q.s.length+1≤_;omega
    ·split at h
     ·split at h
      ·cases h
      ·rename_i q hq
       have:=listF_wt ih hq;cases h;refine⟨this.1,?_⟩;have b2:=this.2;show wt1 f q.l+q.s.length+1≤_;omega
     ·split at h
      ·split at h
       ·cases h
       ·rename_i q hq
        have:=listF_wt ih hq;cases h;refine⟨this.1,?_⟩;have b2:=this.2;have b3:=sum_le f q.l;show (q.l.map (wtF f)).sum+q.s.length+1≤_;omega
      ·cases h
theorem sgs_lenP:∀(n:Nat) (l:BtP),(sgs n l).length≤n
 | 0,_=>by simp[sgs]
 | n+1,[]=>by simp[sgs]
 | n+1,c::l=>by
  simp only[sgs]
  split
  ·have:=sgs_lenP n l;omega
  ·have:=sgs_lenP n ((c::l).drop (sgLen (c::l)));simp only[List.length_cons];omega
theorem parseF_reads {l:BtP} {g:Gt} (h:parseF l=some g):htLe 20 g∧wtF 20 g≤2001:=by
 unfold parseF at h
 split at h
 ·cases h
 ·rename_i hl
  split at h
  ·cases h
  ·rename_i r hr
   split at h
   ·cases h;have k:=gF_reads 20 _ _ hr;have e:=sgs_lenP l.length l;have k2:=k.2;simp only[List.length_append,List.length_cons,List.length_nil] at k2;exact⟨k.1,by omega⟩
   ·cases h
end Go.Proofs.YtjpklmighoondaaGreatDoor.Gn
namespace Go.Proofs.YtjpklmighoondaaGreatDoor.Fa
structure Trl where
 p:St.Pst
 s:Sto
 g:Gn.Gt
 t:Gn.Tp
 begun:Nat
 over:Bool
def Trl.play (T:Trl) (m:Mvs):Trl:= {T with p:=St.playP T.p m,s:=playS T.s m}
def Trl.on (T:Trl) (n:Int):Trl:= {T with t:=T.t.on n}
def mvB (c:Int) (x:Gn.Cl):Mvs:=⟨if x.wr=true then 1 else 0,c,x.key,x.v⟩
def Trl.nx (T:Trl):Gn.Gv:=Gn.nextF 20 T.g T.t
def Trl.asked (T:Trl):Trl:= {T with g:=T.nx.g,t:=T.nx.t}
def begF (T:Trl) (c:Int):Trl×Bool:=
 if T.over=true∨T.begun=40∨St.freeP T.p c≠0 then (T,false)
 else match T.nx.c with
  | none=>({T.asked with over:=true},false)
  | some x=>if St.playC T.p (mvB c x)≠0 then (T.asked,false) else ({T.asked.play (mvB c x) with begun:=T.begun+1},true)
def trouF (T:Trl):Trl:=
 let d:=T.t.below 6
 let T1:=T.on 6
 if d=0 then T1.play ⟨6,0,0,0⟩
 else if d=1 then T1.play ⟨8,T.p.n,0,0⟩
 else if d=2 then T1.play ⟨9,T.p.n,0,0⟩
 else if d=3 then T1.play ⟨10,T.p.n,0,0⟩
 else if d=4 then (T1.on T.p.n).play ⟨11,T.p.n,T1.t.below T.p.n,0⟩
 else (T1.on T.p.k).play ⟨5,T1.t.below T.p.k,0,0⟩
def mesF (T:Trl) (what:Int):Trl:=(T.on T.p.mails.length).play ⟨what,T.t.below T.p.mails.length,0,0⟩
def moveF (T:Trl):Trl:=
 let n:=T.t.below 10
 let T1:=T.on 10
 if n < 3 then (begF (T1.on T.p.k) (T1.t.below T.p.k)).1
 else if n < 7 then mesF T1 2
 else if n=7 then mesF T1 3
 else if n=8 then mesF T1 4
 else trouF T1
def begsF (T:Trl):Nat→Trl×Bool
 | 0=>(T,false)
 | c+1=>((begF (begsF T c).1 c).1,(begsF T c).2||(begF (begsF T c).1 c).2)
def drainF:Nat→Trl→Trl
 | 0,T=>T
 | k+1,T=>if T.p.mails= [] then T else drainF k (T.play ⟨2,0,0,0⟩)
structure Rch (p0 : St.Pst) (s0 : Sto) (b : Nat) (T : Trl) : Prop where
 mv:∃l:List Mvs,l.length≤b∧T.p=St.runP p0 l∧T.s=runS s0 l
 bg:T.begun≤40
 dp:Gn.htLe 20 T.g
 wt:Gn.wtF 20 T.g≤2001
section
variable {p0 : St.Pst} {s0 : Sto} {b : Nat} {T : Trl}
theorem Rch.up (h:Rch p0 s0 b T) {c:Nat} (hc:b≤c):Rch p0 s0 c T:=by
 obtain⟨⟨l,h1,h2⟩,h3,h4,h5⟩:=h;exact⟨⟨l,by omega,h2⟩,h3,h4,h5⟩
theorem Rch.play (h:Rch p0 s0 b T) (m:Mvs):Rch p0 s0 (b+1) (T.play m):=by
 obtain⟨⟨l,h1,h2,h3⟩,h4,h5,h6⟩:=h;refine⟨⟨l++ [m],by simp;omega,?_,?_⟩,h4,h5,h6⟩
 ·show St.playP T.p m=_;rw[h2];unfold St.runP;rw[List.foldl_append];rfl
 ·show playS T.s m=_;rw[h3];unfold runS;rw[List.foldl_append];rfl
theorem Rch.on (h:Rch p0 s0 b T) (n:Int):Rch p0 s0 b (T.on n):=⟨h.mv,h.bg,h.dp,h.wt⟩
theorem Rch.asked (h:Rch p0 s0 b T):Rch p0 s0 b T.asked:=⟨h.mv,h.bg,(Gn.nextF_more 20 T.g T.t h.dp).2,Nat.le_trans (Gn.nextF_use 20 T.g T.t).2 h.wt⟩
theorem Rch.over (h:Rch p0 s0 b T) (o:Bool):Rch p0 s0 b {T with over:=o} :=⟨h.mv,h.bg,h.dp,h.wt⟩
theorem Rch.beg (h:Rch p0 s0 b T) (c:Int):Rch p0 s0 (b+1) (begF T c).1:=by
 unfold begF
 split
 ·exact h.up (by omega)
 ·rename_i hn
  split
  ·exact(h.asked.over true).up (by omega)
  ·rename_i x hx
   split
   ·exact h.asked.up (by omega)
   ·have h1:=h.asked.play (mvB c x);exact⟨h1.mv,by have:=h.bg;have:T.begun≠40:=fun e=>hn (.inr (.inl e));show T.begun+1≤40;omega,h1.dp,h1.wt⟩
theorem Rch.trou (h:Rch p0 s0 b T):Rch p0 s0 (b+1) (trouF T):=by
 unfold trouF;dsimp only;repeat' split
 all_goals first | exact(h.on 6).play _ | exact((h.on 6).on _).play _
theorem Rch.move (h:Rch p0 s0 b T):Rch p0 s0 (b+1) (moveF T):=by
 unfold moveF;dsimp only;repeat' split
 ·exact((h.on 10).on _).beg _
 ·exact((h.on 10).on _).play _
 ·exact((h.on 10).on _).play _
 ·exact((h.on 10).on _).play _
 ·exact(h.on 10).trou
end
end Go.Proofs.YtjpklmighoondaaGreatDoor.Fa
namespace Go.Proofs.YtjpklmighoondaaGreatDoor.St
open Go.RowKit
theorem infoN:(Tryz.prog.info? 115).map (fun i=>(i.zero,i.size,i.bytes))=some (some (.agg #[.int .i64 0,.int .i64 0,.int .i64 0,.int .i64 0,.int .i64 0,.int .i64 0,.int .i64 0,.int .i64 0,.int .i64 0,.int .i64 0,.int .i64 0,.int .i64 0,.int .i64 0,.int .i64 0,.int .i64 0,.int .i64 0,.int .i64 0,.int .i64 0,.int .i64 0,.int .i64 0,.int .i64 0,.int .i64 0,.int .i64 0,.int .i64 0]),24,192):=by kernel_rfl
theorem infoC:(Tryz.prog.info? 250).map (fun i=>(i.zero,i.size,i.bytes))=some (some (.agg #[.int .i64 0,.int .i64 0,.int .i64 0,.int .i64 0,.int .i64 0,.int .i64 0,.int .i64 0,.int .i64 0,.int .i64 0,.slice none 0 0,.int .i64 0,.int .i64 0,.int .i64 0]),13,120):=by kernel_rfl
def nodeZ (n:Nat):Array Value:=madeCells #[.int .i64 0,.int .i64 0,.int .i64 0,.int .i64 0,.int .i64 0,.int .i64 0,.int .i64 0,.int .i64 0,.int .i64 0,.int .i64 0,.int .i64 0,.int .i64 0,.int .i64 0,.int .i64 0,.int .i64 0,.int .i64 0,.int .i64 0,.int .i64 0,.int .i64 0,.int .i64 0,.int .i64 0,.int .i64 0,.int .i64 0,.int .i64 0] (n*24)
def clZ (n:Nat):Array Value:=madeCells #[.int .i64 0,.int .i64 0,.int .i64 0,.int .i64 0,.int .i64 0,.int .i64 0,.int .i64 0,.int .i64 0,.int .i64 0,.slice none 0 0,.int .i64 0,.int .i64 0,.int .i64 0] (n*13)
theorem made_nodes (w:World) (n:Nat) (hn:n≤60):(Instr.makeSlice 101 (.int .i64 (n:Int)) (.int .i64 (n:Int))).run Tryz.prog w=.ok (.slice (some ⟨w.heap.size,0,none⟩) n n) (w.alloc (.cells (nodeZ n) 115)):=by
 obtain⟨i,hi,hz,hs,hb⟩:=info_parts' infoN;have:=run_make (P:=Tryz.prog) w 101 115 i _ Tryz.underlying101 hi hz .i64 .i64 (n:Int) (n:Int) (by omega) (Int.le_refl _) (by rw[hb];omega) (by omega);rw[hs,Int.toNat_natCast] at this;exact this
theorem made_cls (w:World) (n:Nat) (hn:n≤60):(Instr.makeSlice 102 (.int .i64 (n:Int)) (.int .i64 (n:Int))).run Tryz.prog w=.ok (.slice (some ⟨w.heap.size,0,none⟩) n n) (w.alloc (.cells (clZ n) 250)):=by
 obtain⟨i,hi,hz,hs,hb⟩:=info_parts' infoC;have:=run_make (P:=Tryz.prog) w 102 250 i _ Tryz.underlying102 hi hz .i64 .i64 (n:Int) (n:Int) (by omega) (Int.le_refl _) (by rw[hb];omega) (by omega);rw[hs,Int.toNat_natCast] at this;exact this
theorem clZ_at (n:Nat) {i j:Nat} (hi:i < n) (hj:j < 13):(clZ n)[i*13+j]?=(#[.int .i64 0,.int .i64 0,.int .i64 0,.int .i64 0,.int .i64 0,.int .i64 0,.int .i64 0,.int .i64 0,.int .i64 0,.slice none 0 0,.int .i64 0,.int .i64 0,.int .i64 0]:Array Value)[j]?:=by
 unfold clZ madeCells;have h1:i*13+j < n*13:=by omega
 have h2:(i*13+j)%13=j:=by omega
 rw[Array.getElem?_map,Array.getElem?_range,if_pos h1];show some ((#[.int .i64 0,.int .i64 0,.int .i64 0,.int .i64 0,.int .i64 0,.int .i64 0,.int .i64 0,.int .i64 0,.int .i64 0,.slice none 0 0,.int .i64 0,.int .i64 0,.int .i64 0]:Array Value)[(i*13+j)%13]!)=_;rw[h2];have h3:j < (#[.int .i64 0,.int .i64 0,.int .i64 0,.int .i64 0,.int .i64 0,.int .i64 0,.int .i64 0,.int .i64 0,.int .i64 0,.slice none 0 0,.int .i64 0,.int .i64 0,.int .i64 0]:Array Value).size:=hj;rw[getElem!_pos _ j h3,Array.getElem?_eq_getElem h3]
def stZ (N C n k:Nat) (ask tell:Int) (back:Bool):Obj:=.cells #[.int .i64 (n:Int),.int .i64 (k:Int),.int .i64 ask,.int .i64 tell,.bool back,.slice none 0 0,.slice none 0 0,.slice (some ⟨N,0,none⟩) n n,.slice (some ⟨C,0,none⟩) k k,.slice none 0 0,.slice none 0 0] 110 (0,0)
structure NwAt (w W : World) (B N C n k : Nat) (ask tell : Int) (back : Bool) (m q : Nat) : Prop where
 bel:Below w.heap.size w W
 blk:W.heap[B]?=some (stZ N C n k ask tell back)
 nb:∃cur,W.heap[N]?=some (.cells cur 115 (0,0))∧cur.size=n*24
 nx:∀i j,i < n→j < 8→(i < m∨(i=m∧j < q))→W.cell? ⟨N,i*24+j*3,none⟩=some (.int .i64 0)∧W.cell? ⟨N,i*24+j*3+1,none⟩=some (.int .i64 (-1))∧W.cell? ⟨N,i*24+j*3+2,none⟩=some (.int .i64 0)
 cb:W.heap[C]?=some (.cells (clZ k) 250 (0,0))
 lo:w.heap.size≤B∧w.heap.size≤N∧w.heap.size≤C
 ne:B≠N∧C≠N∧B≠C
section
variable {w W W' : World} {B N C n k : Nat} {ask tell : Int} {back : Bool} {m q : Nat}
theorem NwAt.below (h:NwAt w W B N C n k ask tell back m q) (hb:Below W.heap.size W W'):NwAt w W' B N C n k ask tell back m q:=by
 obtain⟨cur,hc,hs⟩:=h.nb;have lN:=lt_of_heap hc;exact⟨belJ h.bel hb,(hb.block B (lt_of_heap h.blk)).trans h.blk,⟨cur,(hb.block N lN).trans hc,hs⟩,fun i j hi hj hm=>by
  obtain⟨a,b,c⟩:=h.nx i j hi hj hm;exact⟨(hb.cell (p:=⟨N,_,none⟩) lN).trans a,(hb.cell (p:=⟨N,_,none⟩) lN).trans b,(hb.cell (p:=⟨N,_,none⟩) lN).trans c⟩,(hb.block C (lt_of_heap h.cb)).trans h.cb,h.lo,h.ne⟩
theorem NwAt.next (h:NwAt w W B N C n k ask tell back m 8):NwAt w W B N C n k ask tell back (m+1) 0:=
 ⟨h.bel,h.blk,h.nb,fun i j hi hj hm=>h.nx i j hi hj (by omega),h.cb,h.lo,h.ne⟩
theorem NwAt.room (h:NwAt w W B N C n k ask tell back m q) {i:Nat} (hi:i < n*24):(∃v,W.cell? ⟨N,i,none⟩=some v)∧W.frozen? ⟨N,i,none⟩=false:=by
 obtain⟨cur,hc,hs⟩:=h.nb;exact⟨⟨cur[i],by rw[cell_of_row _ _ _ _ 115 _ hc,Array.getElem?_eq_getElem (by omega)]⟩,frozen_of_row _ _ _ _ 115 hc⟩
def set3 (W:World) (N o:Nat):World:=((W.setCell ⟨N,o,none⟩ (.int .i64 0)).setCell ⟨N,o+1,none⟩ (.int .i64 (-1))).setCell ⟨N,o+2,none⟩ (.int .i64 0)
theorem NwAt.put (h:NwAt w W B N C n k ask tell back m q) (hm:m < n) (hq:q < 8):NwAt w (set3 W N (m*24+q*3)) B N C n k ask tell back m (q+1):=by
 obtain⟨cur,hc,hs⟩:=h.nb;obtain⟨u1,e1,s1⟩:=heap_setCell hc (m*24+q*3) (.int .i64 0);obtain⟨u2,e2,s2⟩:=heap_setCell e1 (m*24+q*3+1) (.int .i64 (-1));obtain⟨u3,e3,s3⟩:=heap_setCell e2 (m*24+q*3+2) (.int .i64 0);have hoth:∀b,b≠N→(set3 W N (m*24+q*3)).heap[b]?=W.heap[b]?:=fun b hb=>((Below.heap_setCell _ ⟨N,_,none⟩ _ b hb).trans (Below.heap_setCell _ ⟨N,_,none⟩ _ b hb)).trans (Below.heap_setCell _ ⟨N,_,none⟩ _ b hb)
 have hcell:∀o,o≠m*24+q*3→o≠m*24+q*3+1→o≠m*24+q*3+2→(set3 W N (m*24+q*3)).cell? ⟨N,o,none⟩=W.cell? ⟨N,o,none⟩:=fun o h1 h2 h3=>by
  unfold set3;rw[World.cell?_setCell_other _ _ _ _ (offNe (Ne.symm h3)),World.cell?_setCell_other _ _ _ _ (offNe (Ne.symm h2)),World.cell?_setCell_other _ _ _ _ (offNe (Ne.symm h1))]
 refine⟨((h.bel.setCell (p:=⟨N,_,none⟩) h.lo.2.1 _).setCell (p:=⟨N,_,none⟩) h.lo.2.1 _).setCell (p:=⟨N,_,none⟩) h.lo.2.1 _,(hoth B h.ne.1).trans h.blk,⟨u3,e3,by omega⟩,fun i j hi hj hij=>?_,(hoth C h.ne.2.1).trans h.cb,h.lo,h.ne⟩;by_cases e:i=m∧j=q
 ·obtain⟨rfl,rfl⟩:=e;obtain⟨⟨v0,r0⟩,_⟩:=h.room (i:=i*24+j*3) (by omega);obtain⟨⟨v1,r1⟩,_⟩:=h.room (i:=i*24+j*3+1) (by omega);obtain⟨⟨v2,r2⟩,_⟩:=h.room (i:=i*24+j*3+2) (by omega);unfold set3;refine⟨?_,?_,?_⟩
  ·rw[World.cell?_setCell_other _ _ _ _ (offNe (by omega)),World.cell?_setCell_other _ _ _ _ (offNe (by omega))];exact World.cell?_setCell_same _ _ _ r0
  ·rw[World.cell?_setCell_other _ _ _ _ (offNe (by omega))];exact World.cell?_setCell_same _ _ _ ((World.cell?_setCell_other _ _ _ _ (offNe (by omega))).trans r1)
  ·exact World.cell?_setCell_same _ _ _ (((World.cell?_setCell_other _ _ _ _ (offNe (by omega))).trans (World.cell?_setCell_other _ _ _ _ (offNe (by omega)))).trans r2)
 ·obtain⟨a,b,c⟩:=h.nx i j hi hj (by omega);exact⟨(hcell _ (by omega) (by omega) (by omega)).trans a,(hcell _ (by omega) (by omega) (by omega)).trans b,(hcell _ (by omega) (by omega) (by omega)).trans c⟩
end
theorem NwAt.c7 {w W:World} {B N C n k:Nat} {ask tell:Int} {back:Bool} {m q:Nat} (h:NwAt w W B N C n k ask tell back m q):W.cell? ⟨B,7,none⟩=some (.slice (some ⟨N,0,none⟩) n n):=by rw[cell_of_row _ _ _ _ 110 _ h.blk];rfl
theorem nw_start1 {w W:World} (hb:Below w.heap.size w W) (n k:Nat) (ask tell:Int) (back:Bool):NwAt w (((W.alloc (.cells (nodeZ n) 115)).alloc (.cells (clZ k) 250)).alloc (stZ W.heap.size (W.heap.size+1) n k ask tell back)).drew (W.heap.size+1+1) W.heap.size (W.heap.size+1) n k ask tell back 0 0:=by
 have e1:=heap_alloc_new W (.cells (nodeZ n) 115);have e2:=heap_alloc_new (W.alloc (.cells (nodeZ n) 115)) (.cells (clZ k) 250);have e3:=heap_alloc_new ((W.alloc (.cells (nodeZ n) 115)).alloc (.cells (clZ k) 250)) (stZ W.heap.size (W.heap.size+1) n k ask tell back);have b2:=belA (Below.refl (W.alloc (.cells (nodeZ n) 115)).heap.size (W.alloc (.cells (nodeZ n) 115))) (.cells (clZ k) 250);have b3:=belA (Below.refl ((W.alloc (.cells (nodeZ n) 115)).alloc (.cells (clZ k) 250)).heap.size ((W.alloc (.cells (nodeZ n) 115)).alloc (.cells (clZ k) 250))) (stZ W.heap.size (W.heap.size+1) n k ask tell back);have s1:(W.alloc (.cells (nodeZ n) 115)).heap.size=W.heap.size+1:=by simp
 have s2:((W.alloc (.cells (nodeZ n) 115)).alloc (.cells (clZ k) 250)).heap.size=W.heap.size+1+1:=by simp
 rw[s1] at e2;rw[s2] at e3;have hs:=hb.size;exact⟨(belA (belA (belA hb _) _) _).drew,e3,⟨_,((b3.block _ (by omega)).trans (b2.block _ (by omega))).trans e1,by simp[nodeZ,size_madeCells]⟩,fun i j _ _ h=>absurd h (by omega),(b3.block _ (by omega)).trans e2,by omega,by omega⟩
theorem nw_start2 {w W:World} (hb:Below w.heap.size w W) (n k:Nat) (ask tell:Int) (back:Bool):NwAt w (((W.alloc (.cells (clZ k) 250)).alloc (.cells (nodeZ n) 115)).alloc (stZ (W.heap.size+1) W.heap.size n k ask tell back)).drew (W.heap.size+1+1) (W.heap.size+1) W.heap.size n k ask tell back 0 0:=by
 have e1:=heap_alloc_new W (.cells (clZ k) 250);have e2:=heap_alloc_new (W.alloc (.cells (clZ k) 250)) (.cells (nodeZ n) 115);have e3:=heap_alloc_new ((W.alloc (.cells (clZ k) 250)).alloc (.cells (nodeZ n) 115)) (stZ (W.heap.size+1) W.heap.size n k ask tell back);have b2:=belA (Below.refl (W.alloc (.cells (clZ k) 250)).heap.size (W.alloc (.cells (clZ k) 250))) (.cells (nodeZ n) 115);have b3:=belA (Below.refl ((W.alloc (.cells (clZ k) 250)).alloc (.cells (nodeZ n) 115)).heap.size ((W.alloc (.cells (clZ k) 250)).alloc (.cells (nodeZ n) 115))) (stZ (W.heap.size+1) W.heap.size n k ask tell back);have s1:(W.alloc (.cells (clZ k) 250)).heap.size=W.heap.size+1:=by simp
 have s2:((W.alloc (.cells (clZ k) 250)).alloc (.cells (nodeZ n) 115)).heap.size=W.heap.size+1+1:=by simp
 rw[s1] at e2;rw[s2] at e3;have hs:=hb.size;exact⟨(belA (belA (belA hb _) _) _).drew,e3,⟨_,(b3.block _ (by omega)).trans e2,by simp[nodeZ,size_madeCells]⟩,fun i j _ _ h=>absurd h (by omega),((b3.block _ (by omega)).trans (b2.block _ (by omega))).trans e1,by omega,by omega⟩
theorem checkC_ok {n k ask tell:Int} (h:checkC n k ask tell=0):(1≤n∧n≤7)∧(1≤k∧k≤8)∧(1≤ask∧ask≤n)∧1≤tell∧tell≤n:=by
 unfold checkC at h
 split at h
 ·cases h
 ·split at h
  ·cases h
  ·omega
set_option maxHeartbeats 4000000 in
theorem new_bad (n k ask tell:Int) (back:Bool) (w:World) (hc:checkC n k ask tell≠0):Calls Tryz.prog 19 #[.agg #[.int .i64 n,.int .i64 k,.int .i64 ask,.int .i64 tell,.bool back]] w fun e w'=>e=.returned (.tuple #[.pointer none,toldE (checkC n k ask tell)])∧Below w.heap.size w w':=by
 have HB:=hideIt (belA (Below.refl _ w) (.cells #[.int .i64 n,.int .i64 k,.int .i64 ask,.int .i64 tell,.bool back] 23));have HC:=hideIt (check_any n k ask tell back (w.alloc (.cells #[.int .i64 n,.int .i64 k,.int .i64 ask,.int .i64 tell,.bool back] 23)));obtain⟨c,hcc⟩:∃c,checkC n k ask tell=c:=⟨_,rfl⟩;rw[hcc] at HC hc ⊢;have he:toldE c=.iface 55 (.int .i64 c):=by unfold toldE;rw[if_neg hc]
 rw[he] at HC ⊢;clear he hcc hc;go_enter Tryz.func19,Tryz.ntmps19
 go_wp2_with fail
 refine HC.out.mono ?_;rintro e W2 ⟨rfl,hb⟩;have HB2:=hideIt (belJ HB.out hb);clear hb HC HB;go_wp2;go_ret2;exact⟨rfl,HB2.out⟩
set_option maxHeartbeats 8000000 in
theorem new_any (n k:Nat) (ask tell:Int) (back:Bool) (w:World) (hc:checkC (n:Int) (k:Int) ask tell=0):Calls Tryz.prog 19 #[.agg #[.int .i64 (n:Int),.int .i64 (k:Int),.int .i64 ask,.int .i64 tell,.bool back]] w fun e w'=>∃B N C,e=.returned (.tuple #[.pointer (some ⟨B,0,none⟩),.nilIface])∧NwAt w w' B N C n k ask tell back n 0:=by
 obtain⟨hn,hk,_⟩:=checkC_ok hc;have HC:=hideIt (check_any (n:Int) (k:Int) ask tell back (w.alloc (.cells #[.int .i64 (n:Int),.int .i64 (k:Int),.int .i64 ask,.int .i64 tell,.bool back] 23)));rw[hc] at HC;clear hc;have HB:=hideIt (belA (Below.refl _ w) (.cells #[.int .i64 (n:Int),.int .i64 (k:Int),.int .i64 ask,.int .i64 tell,.bool back] 23));have hnew:=heap_alloc_new w (.cells #[.int .i64 (n:Int),.int .i64 (k:Int),.int .i64 ask,.int .i64 tell,.bool back] 23);have hz:toldE 0=.nilIface:=rfl;rw[hz] at HC;have HW:=hideIt hnew;clear hz hnew;have mkN:∀Z,(Instr.makeSlice 101 (.int .i64 (n:Int)) (.int .i64 (n:Int))).run Tryz.prog Z=.ok (.slice (some ⟨Z.heap.size,0,none⟩) n n) (Z.alloc (.cells (nodeZ n) 115)):=fun Z=>made_nodes Z n (by omega)
 have mkC:∀Z,(Instr.makeSlice 102 (.int .i64 (k:Int)) (.int .i64 (k:Int))).run Tryz.prog Z=.ok (.slice (some ⟨Z.heap.size,0,none⟩) k k) (Z.alloc (.cells (clZ k) 250)):=fun Z=>made_cls Z k (by omega)
 go_enter Tryz.func19,Tryz.ntmps19
 go_wp2_with fail
 refine HC.out.mono ?_;rintro e W1 ⟨rfl,hb⟩;have HB1:=hideIt (belJ HB.out hb);have hblk:W1.heap[w.heap.size]?=some (.cells #[.int .i64 (n:Int),.int .i64 (k:Int),.int .i64 ask,.int .i64 tell,.bool back] 23):=(hb.block _ (by simp)).trans HW.out;have a0:W1.cell? ⟨w.heap.size,0,none⟩=some (.int .i64 (n:Int)):=by rw[cell_of_row _ _ _ _ 23 _ hblk];rfl
 have a1:W1.cell? ⟨w.heap.size,1,none⟩=some (.int .i64 (k:Int)):=by rw[cell_of_row _ _ _ _ 23 _ hblk];rfl
 have a2:W1.cell? ⟨w.heap.size,2,none⟩=some (.int .i64 ask):=by rw[cell_of_row _ _ _ _ 23 _ hblk];rfl
 have a3:W1.cell? ⟨w.heap.size,3,none⟩=some (.int .i64 tell):=by rw[cell_of_row _ _ _ _ 23 _ hblk];rfl
 have a4:W1.cell? ⟨w.heap.size,4,none⟩=some (.bool back):=by rw[cell_of_row _ _ _ _ 23 _ hblk];rfl
 have hlt:w.heap.size < W1.heap.size:=lt_of_heap hblk;have ne1:¬w.heap.size=W1.heap.size:=by omega
 have ne2:¬W1.heap.size=w.heap.size:=by omega
 have ne3:¬w.heap.size=W1.heap.size+1:=by omega
 have ne4:¬W1.heap.size+1=w.heap.size:=by omega
 clear hb HC HB hblk HW;go_upto_region 4 with fail
 go_region
 ·have HN0:=hideIt (nw_start1 HB1.out n k ask tell back);clear a0 a1 a2 a3 a4 hlt ne1 ne2 ne3 ne4 mkN mkC;unfold stZ at HN0;generalize World.drew _=V at HN0 ⊢;generalize W1.heap.size+1+1=B at HN0 ⊢;generalize W1.heap.size+1=C at HN0 ⊢;generalize W1.heap.size=N at HN0 ⊢;have c7:=HN0.out.c7;go_wp2;clear c7
  go_loopw [27] (fun v wr=>∃m:Nat,m≤n∧v=.int .i64 m∧NwAt w wr B N C n k ask tell back m 0) (fun v _=>n - (intOf v).toNat)
  case atStart=>exact⟨0,Nat.zero_le _,rfl,HN0.out⟩
  case round=>
   clear HN0;obtain⟨m,hm,rfl,hN⟩:=hrel;have HN:=hideIt hN;clear hN;by_cases hmn:m < n
   ·have hmn':(m:Int) < n:=by omega
    go_wp2
    go_loopw [30] (fun v wz=>∃q:Nat,q≤8∧v=.int .i64 q∧NwAt w wz B N C n k ask tell back m q) (fun v _=>8 - (intOf v).toNat)
    case atStart=>exact⟨0,Nat.zero_le _,rfl,HN.out⟩
    case round=>
     clear HN;obtain⟨q,hq,rfl,hN⟩:=hrel;have HN:=hideIt hN;clear hN;by_cases hqn:q < 8
     ·have hqn':(q:Int) < 8:=by omega
      have HC0:Hid (∀Z,Below wr.heap.size wr Z→Z.cell? ⟨B,7,none⟩=some (.slice (some ⟨N,0,none⟩) n n)):=fun Z hZ=>(HN.out.below hZ).c7
      have HU:Hid (∀Z,Calls Tryz.prog 42 #[] Z fun e w'=>e=.returned (.agg #[.int .i64 0,.int .i64 (-1),.int .i64 0])∧Below Z.heap.size Z w'):=fun Z=>unwr_any Z
      have HPut:Hid (∀Z,Below wr.heap.size wr Z→NwAt w (set3 Z N (m*24+q*3)) B N C n k ask tell back m (q+1)∧(∃v0,Z.cell? ⟨N,m*24+q*3,none⟩=some v0)∧(∃v0,Z.cell? ⟨N,m*24+q*3+1,none⟩=some v0)∧(∃v0,Z.cell? ⟨N,m*24+q*3+2,none⟩=some v0)∧Z.frozen? ⟨N,m*24+q*3,none⟩=false∧Z.frozen? ⟨N,m*24+q*3+1,none⟩=false∧Z.frozen? ⟨N,m*24+q*3+2,none⟩=false):=fun Z hZ=>by
       have hN2:=HN.out.below hZ;exact⟨hN2.put hmn hqn,(hN2.room (by omega)).1,(hN2.room (by omega)).1,(hN2.room (by omega)).1,(hN2.room (by omega)).2,(hN2.room (by omega)).2,(hN2.room (by omega)).2⟩
      clear HN;go_wp2_with fail
      refine wp_region_L (B:= [9]) (S:=fun _=>True) (T:=fun Z=>Below wr.heap.size wr Z) (by kernel_rfl) ⟨trivial,(Below.refl _ _).drew⟩ (fun hHeld=>?_);refine tkS 0 ?_ rfl ?_ ?_;rotate_left 1
      ·intro wz _;go_simp;all_goals with_reducible rfl
      simp only[Act.put,p1,p2,p3,p4,p5];refine tkS 1 ?_ rfl ?_ ?_;rotate_left 1
      ·intro wz _;go_simp;all_goals with_reducible rfl
      simp only[Act.put,p1,p2,p3,p4,p5,p6];refine tkS 2 ?_ rfl ?_ ?_;rotate_left 1
      ·intro wz _;go_simp;all_goals with_reducible rfl
      simp only[Act.put,p1,p2,p3,p4,p5,p6];refine tkL [7,8,9] 3 ?_ rfl ?_ ?_;rotate_left 1
      ·intro wz sb;have y0:=HC0.out wz sb.2;go_simp;all_goals with_reducible rfl
      simp only[Act.put,p1,p2,p3,p4,p5,p6];refine tkS 4 ?_ rfl ?_ ?_;rotate_left 1
      ·intro wz _;go_simp;all_goals with_reducible rfl
      simp only[Act.put,p1,p2,p3,p4,p5,p6];refine tkS 5 ?_ rfl ?_ ?_;rotate_left 1
      ·intro wz _;go_simp;all_goals with_reducible rfl
      simp only[Act.put,p1,p2,p3,p4,p5,p6];refine tkS 7 ?_ rfl ?_ ?_;rotate_left 1
      ·intro wz _;go_simp;all_goals with_reducible rfl
      simp only[Act.put,p1,p2,p3,p4,p5,p6];refine wpAnyL_ready (rs:= [6]) (by kernel_rfl) (by simp) (AllReadyL.cons rfl (fun Q hQ=>?_) AllReadyL.nil);go_simp;refine(HU.out _).mono ?_;rintro e V3 ⟨rfl,hb3⟩;refine hQ.out _ _ ⟨trivial,belJ hHeld.2 hb3⟩ (fun hHeld=>?_);clear hQ Q hb3;refine tkS 8 ?_ rfl ?_ ?_;rotate_left 1
      ·intro wz _;go_simp;all_goals with_reducible rfl
      simp only[Act.put,p1,p2,p3,p4,p5,p6];obtain⟨hp1,⟨v0,p0⟩,⟨v1,p1⟩,⟨v2,p2⟩,f0,f1,f2⟩:=HPut.out _ hHeld.2;unfold set3 at hp1;have R1:=hideIt hp1;clear hp1 HPut HC0 HU;refine wpAnyL_ready (rs:= [9]) (by kernel_rfl) (by simp) (AllReadyL.last rfl (by kernel_rfl) (fun Q hQ=>?_) AllReadyL.nil);go_simp;refine hQ.out _ _ trivial (fun _=>?_);clear hQ Q hHeld;refine wpAnyL_done (by kernel_rfl) ?_ _;go_wp2
      go_roundw
      case rel=>exact⟨q+1,by omega,by go_num,R1.out⟩
      case measure=>simp[intOf];omega
     ·have hq8:q=8:=by omega
      have R1:Hid (NwAt w wr B N C n k ask tell back (m+1) 0):=by subst hq8;exact HN.out.next
      have hd:decide ((q:Int) < 8)=false:=decide_eq_false (by omega);have hnlt:¬(q:Int) < 8:=by omega
      clear HN hq8 hqn;go_wp2
      go_roundw
      case rel=>exact⟨m+1,by omega,by go_num,R1.out⟩
      case measure=>simp[intOf];omega
   ·obtain rfl:m=n:=by omega
    go_wp2;go_ret2;exact⟨B,N,C,rfl,HN.out⟩
 ·have HN0:=hideIt (nw_start2 HB1.out n k ask tell back);clear a0 a1 a2 a3 a4 hlt ne1 ne2 ne3 ne4 mkN mkC;unfold stZ at HN0;generalize World.drew _=V at HN0 ⊢;generalize W1.heap.size+1+1=B at HN0 ⊢;generalize W1.heap.size+1=N at HN0 ⊢;generalize W1.heap.size=C at HN0 ⊢;have c7:=HN0.out.c7;go_wp2;clear c7
  go_loopw [27] (fun v wr=>∃m:Nat,m≤n∧v=.int .i64 m∧NwAt w wr B N C n k ask tell back m 0) (fun v _=>n - (intOf v).toNat)
  case atStart=>exact⟨0,Nat.zero_le _,rfl,HN0.out⟩
  case round=>
   clear HN0;obtain⟨m,hm,rfl,hN⟩:=hrel;have HN:=hideIt hN;clear hN;by_cases hmn:m < n
   ·have hmn':(m:Int) < n:=by omega
    go_wp2
    go_loopw [30] (fun v wz=>∃q:Nat,q≤8∧v=.int .i64 q∧NwAt w wz B N C n k ask tell back m q) (fun v _=>8 - (intOf v).toNat)
    case atStart=>exact⟨0,Nat.zero_le _,rfl,HN.out⟩
    case round=>
     clear HN;obtain⟨q,hq,rfl,hN⟩:=hrel;have HN:=hideIt hN;clear hN;by_cases hqn:q < 8
     ·have hqn':(q:Int) < 8:=by omega
      have HC0:Hid (∀Z,Below wr.heap.size wr Z→Z.cell? ⟨B,7,none⟩=some (.slice (some ⟨N,0,none⟩) n n)):=fun Z hZ=>(HN.out.below hZ).c7
      have HU:Hid (∀Z,Calls Tryz.prog 42 #[] Z fun e w'=>e=.returned (.agg #[.int .i64 0,.int .i64 (-1),.int .i64 0])∧Below Z.heap.size Z w'):=fun Z=>unwr_any Z
      have HPut:Hid (∀Z,Below wr.heap.size wr Z→NwAt w (set3 Z N (m*24+q*3)) B N C n k ask tell back m (q+1)∧(∃v0,Z.cell? ⟨N,m*24+q*3,none⟩=some v0)∧(∃v0,Z.cell? ⟨N,m*24+q*3+1,none⟩=some v0)∧(∃v0,Z.cell? ⟨N,m*24+q*3+2,none⟩=some v0)∧Z.frozen? ⟨N,m*24+q*3,none⟩=false∧Z.frozen? ⟨N,m*24+q*3+1,none⟩=false∧Z.frozen? ⟨N,m*24+q*3+2,none⟩=false):=fun Z hZ=>by
       have hN2:=HN.out.below hZ;exact⟨hN2.put hmn hqn,(hN2.room (by omega)).1,(hN2.room (by omega)).1,(hN2.room (by omega)).1,(hN2.room (by omega)).2,(hN2.room (by omega)).2,(hN2.room (by omega)).2⟩
      clear HN;go_wp2_with fail
      refine wp_region_L (B:= [9]) (S:=fun _=>True) (T:=fun Z=>Below wr.heap.size wr Z) (by kernel_rfl) ⟨trivial,(Below.refl _ _).drew⟩ (fun hHeld=>?_);refine tkS 0 ?_ rfl ?_ ?_;rotate_left 1
      ·intro wz _;go_simp;all_goals with_reducible rfl
      simp only[Act.put,p1,p2,p3,p4,p5];refine tkS 1 ?_ rfl ?_ ?_;rotate_left 1
      ·intro wz _;go_simp;all_goals with_reducible rfl
      simp only[Act.put,p1,p2,p3,p4,p5,p6];refine tkS 2 ?_ rfl ?_ ?_;rotate_left 1
      ·intro wz _;go_simp;all_goals with_reducible rfl
      simp only[Act.put,p1,p2,p3,p4,p5,p6];refine tkL [7,8,9] 3 ?_ rfl ?_ ?_;rotate_left 1
      ·intro wz sb;have y0:=HC0.out wz sb.2;go_simp;all_goals with_reducible rfl
      simp only[Act.put,p1,p2,p3,p4,p5,p6];refine tkS 4 ?_ rfl ?_ ?_;rotate_left 1
      ·intro wz _;go_simp;all_goals with_reducible rfl
      simp only[Act.put,p1,p2,p3,p4,p5,p6];refine tkS 5 ?_ rfl ?_ ?_;rotate_left 1
      ·intro wz _;go_simp;all_goals with_reducible rfl
      simp only[Act.put,p1,p2,p3,p4,p5,p6];refine tkS 7 ?_ rfl ?_ ?_;rotate_left 1
      ·intro wz _;go_simp;all_goals with_reducible rfl
      simp only[Act.put,p1,p2,p3,p4,p5,p6];refine wpAnyL_ready (rs:= [6]) (by kernel_rfl) (by simp) (AllReadyL.cons rfl (fun Q hQ=>?_) AllReadyL.nil);go_simp;refine(HU.out _).mono ?_;rintro e V3 ⟨rfl,hb3⟩;refine hQ.out _ _ ⟨trivial,belJ hHeld.2 hb3⟩ (fun hHeld=>?_);clear hQ Q hb3;refine tkS 8 ?_ rfl ?_ ?_;rotate_left 1
      ·intro wz _;go_simp;all_goals with_reducible rfl
      simp only[Act.put,p1,p2,p3,p4,p5,p6];obtain⟨hp1,⟨v0,p0⟩,⟨v1,p1⟩,⟨v2,p2⟩,f0,f1,f2⟩:=HPut.out _ hHeld.2;unfold set3 at hp1;have R1:=hideIt hp1;clear hp1 HPut HC0 HU;refine wpAnyL_ready (rs:= [9]) (by kernel_rfl) (by simp) (AllReadyL.last rfl (by kernel_rfl) (fun Q hQ=>?_) AllReadyL.nil);go_simp;refine hQ.out _ _ trivial (fun _=>?_);clear hQ Q hHeld;refine wpAnyL_done (by kernel_rfl) ?_ _;go_wp2
      go_roundw
      case rel=>exact⟨q+1,by omega,by go_num,R1.out⟩
      case measure=>simp[intOf];omega
     ·have hq8:q=8:=by omega
      have R1:Hid (NwAt w wr B N C n k ask tell back (m+1) 0):=by subst hq8;exact HN.out.next
      have hd:decide ((q:Int) < 8)=false:=decide_eq_false (by omega);have hnlt:¬(q:Int) < 8:=by omega
      clear HN hq8 hqn;go_wp2
      go_roundw
      case rel=>exact⟨m+1,by omega,by go_num,R1.out⟩
      case measure=>simp[intOf];omega
   ·obtain rfl:m=n:=by omega
    go_wp2;go_ret2;exact⟨B,N,C,rfl,HN.out⟩
end Go.Proofs.YtjpklmighoondaaGreatDoor.St
