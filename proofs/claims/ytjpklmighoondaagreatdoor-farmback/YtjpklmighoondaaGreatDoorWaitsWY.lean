/-
  Package linear's allWaits: walked.
-/
import Derived.Test.YtjpklmighoondaaGreatDoorStepLY
import Derived.Deep.RegionHeld3
import Derived.Deep.DeepCutAuto
import Derived.Laws.MakeOwn
namespace Go.Proofs.YtjpklmighoondaaGreatDoor
open Go.RowKit
def waitK (ops:List Opn) (ah:Opn→Opn→Bool) (b m:Nat):List Nat:=(List.range m).filter fun a=>a != b&&ah (opN ops a) (opN ops b)
theorem waitK_yes {ops:List Opn} {ah:Opn→Opn→Bool} {b m:Nat} (h:m≠b) (ha:ah (opN ops m) (opN ops b)=true):waitK ops ah b (m+1)=waitK ops ah b m++ [m]:=by simp[waitK,List.range_succ,h,ha]
theorem waitK_no {ops:List Opn} {ah:Opn→Opn→Bool} {b m:Nat} (h:m=b∨ah (opN ops m) (opN ops b)=false):waitK ops ah b (m+1)=waitK ops ah b m:=by
 unfold waitK;rw[List.range_succ,List.filter_append];rcases h with rfl | h
 ·simp
 ·simp[h]
theorem waitK_lt {ops:List Opn} {ah:Opn→Opn→Bool} {b m:Nat} :∀n∈waitK ops ah b m,n < m:=fun _ h=>List.mem_range.1 (List.mem_filter.1 h).1
def wtL (ops:List Opn) (ah:Opn→Opn→Bool) (b m i:Nat):List Nat:=if i < b then waitL ops ah i else if i=b then waitK ops ah b m else []
def WtAt (ops:List Opn) (ah:Opn→Opn→Bool) (Wb b m:Nat) (wr:World):Prop:=
 ∃cur:Array Value,wr.heap[Wb]?=some (.cells cur 164 (0,0))∧cur.size=ops.length∧∀i,i < ops.length→cur[i]?=some (.int .u64 (maskN (wtL ops ah b m i)))
theorem WtAt.next {ops:List Opn} {ah:Opn→Opn→Bool} {Wb b:Nat} {wr:World} (h:WtAt ops ah Wb b ops.length wr):WtAt ops ah Wb (b+1) 0 wr:=by
 obtain⟨cur,h1,h2,h3⟩:=h;refine⟨cur,h1,h2,fun i hi=>?_⟩;rw[h3 i hi]
 congr 4
 unfold wtL;by_cases e:i < b
 ·simp[e,Nat.lt_succ_of_lt e]
 ·by_cases e2:i=b
  ·subst e2;simp[waitL,waitK]
  ·have:¬i < b+1:=by omega
   have e3:waitK ops ah (b+1) 0= []:=by simp[waitK]
   simp[e,e2,this,e3]
theorem WtAt.same {ops:List Opn} {ah:Opn→Opn→Bool} {Wb b m:Nat} {wr wr':World} (h:WtAt ops ah Wb b m wr) (hs:wr'.heap[Wb]?=wr.heap[Wb]?):WtAt ops ah Wb b m wr':=by
 obtain⟨cur,h1,h2,h3⟩:=h;exact⟨cur,hs.trans h1,h2,h3⟩
theorem WtAt.skip {ops:List Opn} {ah:Opn→Opn→Bool} {Wb b m:Nat} {wr:World} (h:WtAt ops ah Wb b m wr) (hk:waitK ops ah b (m+1)=waitK ops ah b m):WtAt ops ah Wb b (m+1) wr:=by
 obtain⟨cur,h1,h2,h3⟩:=h;refine⟨cur,h1,h2,fun i hi=>?_⟩;rw[h3 i hi];unfold wtL;rw[hk]
theorem WtAt.cell {ops:List Opn} {ah:Opn→Opn→Bool} {Wb b m:Nat} {wr:World} (h:WtAt ops ah Wb b m wr) (hb:b < ops.length):wr.cell? ⟨Wb,b,none⟩=some (.int .u64 (maskN (waitK ops ah b m)))∧wr.frozen? ⟨Wb,b,none⟩=false:=by
 obtain⟨cur,h1,h2,h3⟩:=h;refine⟨?_,frozen_of_row wr Wb b cur 164 h1⟩;rw[cell_of_row wr Wb b cur 164 (0,0) h1,h3 b hb];simp[wtL]
theorem WtAt.put {ops:List Opn} {ah:Opn→Opn→Bool} {Wb b m:Nat} {wr:World} (h:WtAt ops ah Wb b m wr) (hb:b < ops.length) (hk:waitK ops ah b (m+1)=waitK ops ah b m++ [m]):WtAt ops ah Wb b (m+1) (wr.setCell ⟨Wb,b,none⟩ (.int .u64 (maskN (waitK ops ah b m++ [m])))):=by
 obtain⟨cur,h1,h2,h3⟩:=h;refine⟨cur.setIfInBounds b (.int .u64 (maskN (waitK ops ah b m++ [m]))),by simp[World.setCell,Array.getElem?_modify,h1],by simpa using h2,fun i hi=>?_⟩;by_cases e:i=b
 ·subst e;rw[Array.getElem?_setIfInBounds_self_of_lt (by omega)];simp[wtL,hk]
 ·rw[Array.getElem?_setIfInBounds_ne (Ne.symm e),h3 i hi];unfold wtL;rw[if_neg e,if_neg e]
def AwTold (ops:List Opn) (ah:Opn→Opn→Bool) (w:World) (e:Ending) (w':World):Prop:=
 ∃Wb cur,e=.returned (.slice (some ⟨Wb,0,none⟩) ops.length ops.length)∧w.heap.size≤Wb∧w'.heap[Wb]?=some (.cells cur 164 (0,0))∧(∀i,i < ops.length→w'.cell? ⟨Wb,i,none⟩=some (.int .u64 (maskN (waitL ops ah i))))∧Below w.heap.size w w'
theorem info60:(Tryz.prog.info? 164).map (fun i=>(i.zero,i.size,i.bytes))=some (some (.int .u64 0),1,8):=by kernel_rfl
theorem made_waits (w:World) (n:Nat) (hn:n≤60):(Instr.makeSlice 267 (.int .i64 (n:Int)) (.int .i64 (n:Int))).run Tryz.prog w=.ok (.slice (some ⟨w.heap.size,0,none⟩) n n) (w.alloc (.cells (madeCells #[.int .u64 0] n) 164)):=by
 obtain⟨i,hi,hz,hs,hb⟩:=info_parts info60;have:=run_make (P:=Tryz.prog) w 267 164 i (.int .u64 0) Tryz.underlying267 hi hz .i64 .i64 (n:Int) (n:Int) (by omega) (Int.le_refl _) (by rw[hb];omega) (by omega);have e:(Value.int IntKind.u64 0).cells=#[.int .u64 0]:=rfl;rw[e] at this
 simpa [hs] using this
theorem made_at (n i:Nat) (h:i < n):(madeCells #[.int .u64 0] n)[i]?=some (.int .u64 0):=by
 simp[madeCells,h,Nat.mod_one]
theorem wt_made (ops:List Opn) (ah:Opn→Opn→Bool) (w:World):WtAt ops ah w.heap.size 0 0 (w.alloc (.cells (madeCells #[.int .u64 0] ops.length) 164)):=by
 refine⟨_,heap_alloc_new w _,size_madeCells _ _,fun i hi=>?_⟩;rw[made_at _ _ hi];have:wtL ops ah 0 0 i= []:=by
  unfold wtL;by_cases e:i=0
  ·simp[e,waitK]
  ·simp[e]
 rw[this];rfl
set_option maxRecDepth 100000 in
set_option maxHeartbeats 8000000 in
theorem allWaits_any (ops:List Opn) (u:Value) (B:Nat) (w:World) (hlen:ops.length≤60) (hl:OpsIn w u ops) (b1:w.cell? ⟨B,1,none⟩=some u) (b3:w.cell? ⟨B,3,none⟩=some (.func (.func 86) #[] #[])):
  Calls Tryz.prog 227 #[.pointer (some ⟨B,0,none⟩)] w fun e w'=>AwTold ops beforeB w e w':=by
 have hBl:B < w.heap.size:=World.block_lt_of_cell? w _ b1;obtain⟨a,cap,rfl,hc,hm,hops⟩:=hl;unfold maxLen at hm;have hmk:=made_waits w ops.length hlen;have HOP:Hid (∀n,(hn:n < ops.length)→∃b off,a=some ⟨b,off,none⟩∧∀wr,Below w.heap.size w wr→OpAt wr b (off+n*8) ops[n]):=hideIt (fun n hn=>by
  obtain h | ⟨b,off,e,hlt,hc⟩:=hops
  ·subst h;simp at hn
  ·exact⟨b,off,e,fun wr hW=>(hc n hn).below hlt hW⟩)
 have HB:Hid (∀wr,Below w.heap.size w wr→wr.cell? ⟨B,1,none⟩=some (.slice a ops.length cap)∧wr.cell? ⟨B,3,none⟩=some (.func (.func 86) #[] #[])):=hideIt (fun wr hW=>⟨(hW.cell (p:=⟨B,1,none⟩) hBl).trans b1,(hW.cell (p:=⟨B,3,none⟩) hBl).trans b3⟩);have HW0:=hideIt (wt_made ops beforeB w);have HB0:Hid (Below w.heap.size w (w.alloc (.cells (madeCells #[.int .u64 0] ops.length) 164))):=hideIt (belA (Below.refl _ _) _);obtain⟨d1,d3⟩:=HB.out _ HB0.out;clear hops;go_enter Tryz.func227,Tryz.ntmps227
 go_wp2
 go_loopw [17] (fun i wr=>∃k:Nat,k≤ops.length∧i=.int .i64 k∧WtAt ops beforeB w.heap.size k 0 wr∧Below w.heap.size w wr) (fun i _=>ops.length - (intOf i).toNat)
 case atStart=>exact⟨0,by omega,rfl,HW0.out,HB0.out⟩
 case round=>
  obtain⟨k,hk,rfl,hwt,hb⟩:=hrel;have HWT:=hideIt hwt;have HBE:=hideIt hb;obtain⟨e1,e3⟩:=HB.out _ hb;clear hwt hb d1 d3 b1 b3 hmk;by_cases hkl:k < ops.length
  ·go_wp2
   go_loopw [25] (fun i wy=>∃m:Nat,m≤ops.length∧i=.int .i64 m∧WtAt ops beforeB w.heap.size k m wy∧Below w.heap.size w wy) (fun i _=>ops.length - (intOf i).toNat)
   case atStart=>exact⟨0,by omega,rfl,HWT.out,HBE.out⟩
   case round=>
    obtain⟨m,hm',rfl,hwy,hby⟩:=hrel;have HWY:=hideIt hwy;have HBY:=hideIt hby;obtain⟨f1,f3⟩:=HB.out _ hby;clear hwy hby e1 e3;by_cases hml:m < ops.length
    ·by_cases hmk:m=k
     ·have hmk':((m:Int) != (k:Int))=false:=by simp[hmk]
      have HK:=hideIt (HWY.out.skip (waitK_no (.inl hmk)));clear hmk;go_wp2_with fail
      go_quiet (fail)
      go_wp2
      go_roundw
      case rel=>exact⟨m+1,by omega,by go_num,HK.out.same rfl,below_drewN HBY.out _⟩
      case measure=>simp[intOf];omega
     ·have hmk':((m:Int) != (k:Int))=true:=by simp;omega
      obtain⟨bo,offo,rfl,hop1⟩:=HOP.out m hml;obtain⟨bo2,offo2,he2,hop2⟩:=HOP.out k hkl;obtain⟨rfl,rfl⟩:bo=bo2∧offo=offo2:=by simp at he2;exact he2
      clear he2;obtain⟨c0,c1,c2,c3,c4,c5,c6,c7⟩:=hop1 _ HBY.out;obtain⟨g0,g1,g2,g3,g4,g5,g6,g7⟩:=hop2 _ HBY.out;have HX:Hid (∀w2,Below wr.drew.heap.size wr.drew w2→OpAt w2 bo (offo+m*8) ops[m]∧OpAt w2 bo (offo+k*8) ops[k]∧w2.cell? ⟨B,1,none⟩=some (.slice (some ⟨bo,offo,none⟩) ops.length cap)∧w2.cell? ⟨B,3,none⟩=some (.func (.func 86) #[] #[])∧Below w.heap.size w w2∧WtAt ops beforeB w.heap.size k m w2):=hideIt (fun w2 h2=>by
       have hbb:=belJ HBY.out.drew h2;obtain⟨x1,x3⟩:=HB.out _ hbb;refine⟨hop1 w2 hbb,hop2 w2 hbb,x1,x3,hbb,HWY.out.same (h2.block w.heap.size ?_)⟩;obtain⟨cur,hh,_⟩:=HWY.out;exact lt_of_heap hh)
      clear hop1 hop2;have HE1:=hideIt (opN_at hml);have HE2:=hideIt (opN_at hkl);have HC:=hideIt (fun W=>before_any ops[m] ops[k] W);unfold Opn.agg at HC;have i1:(0:Int)≤(m:Int):=by omega
      have i2:(m:Int) < (ops.length:Int):=by omega
      have i3:(0:Int)≤(k:Int):=by omega
      have i4:(k:Int) < (ops.length:Int):=by omega
      cases hbe:beforeB ops[m] ops[k]
      ·rw[hbe] at HC;have HKN:=hideIt (waitK_no (ops:=ops) (ah:=beforeB) (b:=k) (m:=m) (.inr (by rw[HE1.out,HE2.out];exact hbe)));clear hbe;go_wp2_with fail
       go_region_held3 (fun w'=>w'.cell? ⟨B,1,none⟩=some (.slice (some ⟨bo,offo,none⟩) ops.length cap)∧w'.cell? ⟨B,3,none⟩=some (.func (.func 86) #[] #[])∧w'.cell? ⟨bo,offo+m*8,none⟩=some (.int .i64 ops[m].p)∧w'.cell? ⟨bo,offo+m*8+1,none⟩=some (.int .i64 ops[m].k)∧w'.cell? ⟨bo,offo+m*8+2,none⟩=some (.int .i64 ops[m].d)∧w'.cell? ⟨bo,offo+m*8+3,none⟩=some (.int .i64 ops[m].a)∧w'.cell? ⟨bo,offo+m*8+4,none⟩=some (.int .i64 ops[m].b)∧w'.cell? ⟨bo,offo+m*8+5,none⟩=some (.int .i64 ops[m].r)∧w'.cell? ⟨bo,offo+m*8+6,none⟩=some (.int .i64 ops[m].c)∧w'.cell? ⟨bo,offo+m*8+7,none⟩=some (.int .i64 ops[m].e)∧w'.cell? ⟨bo,offo+k*8,none⟩=some (.int .i64 ops[k].p)∧w'.cell? ⟨bo,offo+k*8+1,none⟩=some (.int .i64 ops[k].k)∧w'.cell? ⟨bo,offo+k*8+2,none⟩=some (.int .i64 ops[k].d)∧w'.cell? ⟨bo,offo+k*8+3,none⟩=some (.int .i64 ops[k].a)∧w'.cell? ⟨bo,offo+k*8+4,none⟩=some (.int .i64 ops[k].b)∧w'.cell? ⟨bo,offo+k*8+5,none⟩=some (.int .i64 ops[k].r)∧w'.cell? ⟨bo,offo+k*8+6,none⟩=some (.int .i64 ops[k].c)∧w'.cell? ⟨bo,offo+k*8+7,none⟩=some (.int .i64 ops[k].e)) (go_keep)
        (first | (go_at_call 86;refine(HC.out _).mono ?_;rintro e w2 ⟨rfl,hb2⟩;obtain⟨⟨p0,p1,p2,p3,p4,p5,p6,p7⟩,⟨q0,q1,q2,q3,q4,q5,q6,q7⟩,x1,x3,hbb,hww⟩:=HX.out w2 hb2;have HBB:=hideIt hbb;have HWW:=hideIt hww;clear hb2 hbb hww))
       go_wp2
       go_roundw
       case rel=>exact⟨m+1,by omega,by go_num,HWW.out.skip HKN.out,HBB.out⟩
       case measure=>simp[intOf];omega
      ·rw[hbe] at HC;have HKY:=hideIt (waitK_yes (ops:=ops) (ah:=beforeB) (b:=k) (m:=m) hmk (by rw[HE1.out,HE2.out];exact hbe));obtain⟨pw,hp,hcall⟩:=bit_call m (by omega);have HCB:=hideIt hcall;have hml2:maskN (waitK ops beforeB k m) < 18446744073709551616:=maskN_lt (fun n hn=>by have:=waitK_lt n hn;omega);have R1:Hid (bits .or .u64 (maskN (waitK ops beforeB k m):Int) (pw:Int)=(maskN (waitK ops beforeB k m++ [m]):Int)):=hideIt (by rw[hp,or_bits hml2 (by omega),or_bit]);clear hbe hp hcall hml2 hmk;go_wp2_with fail
       go_region_held3 (fun w'=>w'.cell? ⟨B,1,none⟩=some (.slice (some ⟨bo,offo,none⟩) ops.length cap)∧w'.cell? ⟨B,3,none⟩=some (.func (.func 86) #[] #[])∧w'.cell? ⟨bo,offo+m*8,none⟩=some (.int .i64 ops[m].p)∧w'.cell? ⟨bo,offo+m*8+1,none⟩=some (.int .i64 ops[m].k)∧w'.cell? ⟨bo,offo+m*8+2,none⟩=some (.int .i64 ops[m].d)∧w'.cell? ⟨bo,offo+m*8+3,none⟩=some (.int .i64 ops[m].a)∧w'.cell? ⟨bo,offo+m*8+4,none⟩=some (.int .i64 ops[m].b)∧w'.cell? ⟨bo,offo+m*8+5,none⟩=some (.int .i64 ops[m].r)∧w'.cell? ⟨bo,offo+m*8+6,none⟩=some (.int .i64 ops[m].c)∧w'.cell? ⟨bo,offo+m*8+7,none⟩=some (.int .i64 ops[m].e)∧w'.cell? ⟨bo,offo+k*8,none⟩=some (.int .i64 ops[k].p)∧w'.cell? ⟨bo,offo+k*8+1,none⟩=some (.int .i64 ops[k].k)∧w'.cell? ⟨bo,offo+k*8+2,none⟩=some (.int .i64 ops[k].d)∧w'.cell? ⟨bo,offo+k*8+3,none⟩=some (.int .i64 ops[k].a)∧w'.cell? ⟨bo,offo+k*8+4,none⟩=some (.int .i64 ops[k].b)∧w'.cell? ⟨bo,offo+k*8+5,none⟩=some (.int .i64 ops[k].r)∧w'.cell? ⟨bo,offo+k*8+6,none⟩=some (.int .i64 ops[k].c)∧w'.cell? ⟨bo,offo+k*8+7,none⟩=some (.int .i64 ops[k].e)) (go_keep)
        (first | (go_at_call 86;refine(HC.out _).mono ?_;rintro e w2 ⟨rfl,hb2⟩;obtain⟨⟨p0,p1,p2,p3,p4,p5,p6,p7⟩,⟨q0,q1,q2,q3,q4,q5,q6,q7⟩,x1,x3,hbb,hww⟩:=HX.out w2 hb2;have HBB:=hideIt hbb;have HWW:=hideIt hww;clear hb2 hbb hww))
       obtain⟨s1,s2⟩:=HWW.out.cell hkl;have HFIN:Hid (∀W3,W3=(w2.setCell ⟨w.heap.size,k,none⟩ (.int .u64 (bits .or .u64 (maskN (waitK ops beforeB k m):Int) (pw:Int)))).drew→WtAt ops beforeB w.heap.size k (m+1) W3∧Below w.heap.size w W3):=hideIt (fun W3 e=>by
        subst e;rw[R1.out];exact⟨(HWW.out.put hkl HKY.out).same rfl,(HBB.out.setCell (p:=⟨w.heap.size,k,none⟩) (Nat.le_refl _) _).drew⟩)
       clear c0 c1 c2 c3 c4 c5 c6 c7 g0 g1 g2 g3 g4 g5 g6 g7 p0 p1 p2 p3 p4 p5 p6 p7 q0 q1 q2 q3 q4 q5 q6 q7;go_wp2_with fail
       go_region_with (go_at_call 83;refine(HCB.out _).mono ?_;rintro e w' ⟨rfl,rfl⟩)
       all_goals
        go_wp2
        go_roundw
        case rel=>exact⟨m+1,by omega,by go_num,(HFIN.out _ rfl).1,(HFIN.out _ rfl).2⟩
        case measure=>simp[intOf];omega
    ·have HN:Hid (WtAt ops beforeB w.heap.size (k+1) 0 wr):=hideIt (by
      have:m=ops.length:=by omega
      exact(this▸HWY.out).next)
     go_wp2
     go_roundw
     case rel=>exact⟨k+1,by omega,by go_num,HN.out,HBY.out⟩
     case measure=>simp[intOf];omega
  ·have HE:Hid (AwTold ops beforeB w (.returned (.slice (some ⟨w.heap.size,0,none⟩) ops.length ops.length)) wr):=hideIt (by
    obtain⟨cur,h1,h2,h3⟩:=HWT.out;refine⟨w.heap.size,cur,rfl,Nat.le_refl _,h1,fun i hi=>?_,HBE.out⟩;rw[cell_of_row wr _ _ cur 164 (0,0) h1,h3 i hi];have:i < k:=by omega
    simp[wtL,this])
   go_wp2;go_ret;exact HE.out
end Go.Proofs.YtjpklmighoondaaGreatDoor
