/-
  The statement FarmSound, walked (where the fact 'tried' holds).
  The fact that the statements of chapter 20 hold ahead, walked.
  What is written otherwise in a title: escapes, escaped and codeNames, walked.
  A line of Text: walked.
  What Text does: walked.
  Package linear's Shows: walked.
-/
import Derived.Test.YtjpklmighoondaaGreatDoorRdHY
import Derived.Test.YtjpklmighoondaaGreatDoorFaZY
import Derived.Test.YtjpklmighoondaaGreatDoorFaUY
import Derived.Test.YtjpklmighoondaaGreatDoorFieldsQY
import Derived.Test.YtjpklmighoondaaGreatDoorLs4Y
import Derived.Test.YtjpklmighoondaaGreatDoorGatherY
import Derived.Deep.RegionHeld3
import Derived.Deep.DrawnRows
import Derived.Test.YtjpklmighoondaaGreatDoorPlainRY
import Derived.Maps.OwnSet
import Derived.Carry
import Derived.Test.YtjpklmighoondaaGreatDoorSetBY
import Derived.Test.YtjpklmighoondaaGreatDoorRowSY
import Derived.Test.YtjpklmighoondaaGreatDoorWalkGY
import Derived.Test.YtjpklmighoondaaGreatDoorVerdictWY
import Derived.Test.YtjpklmighoondaaGreatDoorJudgeWY
set_option maxRecDepth 100000
namespace Go.Proofs.YtjpklmighoondaaGreatDoor.Fa
open Go.RowKit
def rep0C:Obj:=.cells #[.string ⟨#[]⟩,.slice none 0 0,.int .i64 0,.slice none 0 0,.int .i64 0] 36
open Go.RowKit
set_option maxHeartbeats 4000000 in
theorem tried_any (m:Int) (w:World) (hv:Gn.ErrV w) (hp:Gn.PowT w) (hm:w.cell? ⟨1,0,none⟩=some (.int .i64 m)) (hK:KnownAt w):Calls Tryz.prog 6 #[] w fun e w'=>e=.returned (.bool true)∧Below w.heap.size w w':=by
 have h1:1 < w.heap.size:=World.block_lt_of_cell? w _ hm;have hpos:0 < w.heap.size:=by omega
 have hx:TxW w (w.heap.size+2) m:=⟨hv,hp,hm,⟨by have:=hv.lt.1;omega,by have:=hv.lt.2;omega,by have:=hp.lt;omega⟩,by omega⟩;have HP:Hid (Calls Tryz.prog 17 #[.string ⟨#[110,111,100,101,115,32,51,10,99,108,105,101,110,116,115,32,49,10,113,117,111,114,117,109,32,50,32,50,10,103,101,110,32,108,105,109,105,116,32,49,32,119,114,105,116,101,32,48,32,53,32,53,10]⟩] w fun e w'=>e=.returned (.tuple #[.agg #[.int .i64 3,.int .i64 1,.int .i64 2,.int .i64 2,.bool true,.string ⟨#[]⟩,.string (Gn.ba gen0),.int .i64 10000],.nilIface])∧Below w.heap.size w w'):=parse0 m w hx (by omega);have hc:St.checkC ((3:Nat):Int) ((1:Nat):Int) ((2:Nat):Int) ((2:Nat):Int)=0:=by decide
 have HR:Hid (∀Z,Below w.heap.size w Z→Calls Tryz.prog 9 #[.agg #[.int .i64 3,.int .i64 1,.int .i64 2,.int .i64 2,.bool true,.string ⟨#[]⟩,.string (Gn.ba gen0),.int .i64 10000],.slice none 0 0] Z (RunTold 3 1 2 2 true ⟨#[]⟩ gen0 10000 [] Z)):=fun Z hZ=>
  run_any 3 1 2 2 true ⟨#[]⟩ gen0 10000 none 0 [] Z (by decide) (by decide) (.inl rfl) (hv.fr (Gn.fr_below hZ []) (by simp) (by simp)) (hK.below hpos hZ)
 have HB0:=hideIt (Below.refl w.heap.size w);clear hv hp hm hK hx hpos;go_enter Tryz.func6,Tryz.ntmps6
 go_wp2_with fail
 refine HP.out.mono ?_;rintro e W1 ⟨rfl,hb1⟩;have HB1:=hideIt (St.belA hb1 (.cells #[.int .i64 3,.int .i64 1,.int .i64 2,.int .i64 2,.bool true,.string ⟨#[]⟩,.string (Gn.ba gen0),.int .i64 10000] 25));clear hb1;go_wp2_with fail
 refine(HR.out _ HB1.out).mono ?_;rintro e W2 htold;rcases htold with ⟨Ty,x,rfl,hwhy,hb2⟩ | ⟨_,n2,k2,a2,t2,e1,e2,e3,e4,_,g,T1,T2,b,hg,hmv,hfi,hb,hG,_,hrep⟩
 ·exfalso
  rcases hwhy with h | h | h | ⟨n2,k2,a2,t2,b,g,T1,T2,e1,e2,e3,e4,hg,hmv,hfi,_,h⟩
  ·exact absurd h (by decide)
  ·exact h hc
  ·rw[gen0_reads] at h;cases h
  ·obtain rfl:3=n2:=by omega
   obtain rfl:1=k2:=by omega
   obtain rfl:2=a2:=by omega
   obtain rfl:2=t2:=by omega
   obtain rfl:g1=g:=by
    rw[gen0_reads] at hg;exact Option.some.inj hg
   obtain rfl:T00 3 1 2 2 true g1 []=T1:=by
    cases hmv with
    | done _ _=>rfl
    | step h _=>exact absurd h (Nat.not_lt_zero _)
   obtain rfl:Tt3=T2:=tt_fin.det hfi;exact h tt_ok
 ·obtain rfl:3=n2:=by omega
  obtain rfl:1=k2:=by omega
  obtain rfl:2=a2:=by omega
  obtain rfl:2=t2:=by omega
  obtain rfl:g1=g:=by
   rw[gen0_reads] at hg;exact Option.some.inj hg
  obtain rfl:T00 3 1 2 2 true g1 []=T1:=by
   cases hmv with
   | done _ _=>rfl
   | step h _=>exact absurd h (Nat.not_lt_zero _)
  obtain rfl:Tt3=T2:=tt_fin.det hfi;obtain⟨hb2,v',L,ho,hO,h40,ov,rfl,ho1,ho2⟩:=hrep;have hcd:(searchM (srB 1 L (10000:Int).toNat)).code=1:=tt_code hO;obtain⟨oa,oc,rfl⟩:=St.ownsRow_slice (ho1 hcd);rw[tt_evs] at ho;obtain⟨va,vc,rfl,hin⟩:=evs_in ho;rcases hin with h0 | ⟨vb,rfl,hvb,hE⟩
  ·cases h0
  have h5:W2.cell? ⟨vb,11,none⟩=some (.int .i64 5):=(hE 1 (by decide)).2.2.2.2.1;have HB2:=hideIt (St.belJ HB1.out hb2);rw[hcd];generalize (searchM (srB 1 L (10000:Int).toNat)).ent.length=el at*
  generalize (searchM (srB 1 L (10000:Int).toNat)).ord.length=ol at*
  clear HR hG hb hfi hmv hg ho1 ho2 ho hO h40 hE hcd hb2 hc e1 e2 e3 e4;have h5':(W2.alloc (.cells #[.string ⟨#[]⟩,.slice (some ⟨vb,0,none⟩) 2 vc,.int .i64 1,.slice oa ol oc,.int .i64 (el:Int)] 36)).cell? ⟨vb,11,none⟩=some (.int .i64 5):=((St.belA (Below.refl W2.heap.size W2) (.cells #[.string ⟨#[]⟩,.slice (some ⟨vb,0,none⟩) 2 vc,.int .i64 1,.slice oa ol oc,.int .i64 (el:Int)] 36)).cell (p:=⟨vb,11,none⟩) hvb).trans h5;have HB3:Hid (Below w.heap.size w (W2.alloc (.cells #[.string ⟨#[]⟩,.slice (some ⟨vb,0,none⟩) 2 vc,.int .i64 1,.slice oa ol oc,.int .i64 (el:Int)] 36))):=St.belA HB2.out _;go_wp2;go_ret;exact⟨rfl,HB3.out⟩
end Go.Proofs.YtjpklmighoondaaGreatDoor.Fa
namespace Go.Proofs.YtjpklmighoondaaGreatDoor.Pg
open Go.RowKit Go.Lib
open Gn (ba ba_data ba_size)
end Go.Proofs.YtjpklmighoondaaGreatDoor.Pg
namespace Go.Proofs.YtjpklmighoondaaGreatDoor
open Go.RowKit
def txtV (l:List UInt8):Value:=.string ⟨l.toArray⟩
def typeCells:Array Value:=#[txtV [],txtV (typeN 1),txtV (typeN 2),txtV (typeN 3),txtV (typeN 4)]
def kindCells:Array Value:=#[txtV [],txtV (kindN 1),txtV (kindN 2),txtV (kindN 3),txtV (kindN 4),txtV (kindN 5),txtV (kindN 6),txtV (kindN 7),txtV (kindN 8),txtV (kindN 9),txtV (kindN 10),txtV (kindN 11),txtV (kindN 12)]
set_option maxHeartbeats 400000 in
theorem typeNames_any (w:World):Calls Tryz.prog 122 #[] w fun e w'=>e=.returned (.slice (some ⟨w.heap.size,0,none⟩) 5 5)∧w'=w.alloc (.cells typeCells 9):=by
 go_enter Tryz.func122,Tryz.ntmps122
 go_wp2;go_ret;exact⟨rfl,rfl⟩
set_option maxHeartbeats 400000 in
theorem kindNames_any (w:World):Calls Tryz.prog 123 #[] w fun e w'=>e=.returned (.slice (some ⟨w.heap.size,0,none⟩) 13 13)∧w'=w.alloc (.cells kindCells 9):=by
 go_enter Tryz.func123,Tryz.ntmps123
 go_wp2;go_ret;exact⟨rfl,rfl⟩
def Pow (w : World) : Prop := Lib.TabIs Tryz.prog w "internal/strconv.uint64pow10" .u64 Lib.pow10Tab
theorem pow_named : ∃ g, Tryz.prog.globalNamed "internal/strconv.uint64pow10" = some g ∧ g < 4 := ⟨3, by kernel_rfl, by decide⟩
theorem Pow.below {w w':World} {n:Nat} (h:Pow w) (hb:Below n w w') (hn:4≤n):Pow w':=by
 obtain⟨g,hg,hlt⟩:=pow_named;have e:w'.heap[g]?=w.heap[g]?:=hb.block g (by omega);unfold Pow Lib.TabIs World.var? at h ⊢;rw[hg] at h ⊢;simp only[Option.bind_some] at h ⊢;rw[e];exact h
theorem type_cell {t:Int} (h0:1≤t) (h1:t≤4):typeCells[t.toNat]?=some (txtV (typeN t)):=by
 have:t=1∨t=2∨t=3∨t=4:=by omega
 rcases this with rfl | rfl | rfl | rfl<;>rfl
theorem kind_cell {t:Int} (h0:1≤t) (h1:t≤12):kindCells[t.toNat]?=some (txtV (kindN t)):=by
 have:t=1∨t=2∨t=3∨t=4∨t=5∨t=6∨t=7∨t=8∨t=9∨t=10∨t=11∨t=12:=by omega
 rcases this with rfl | rfl | rfl | rfl | rfl | rfl | rfl | rfl | rfl | rfl | rfl | rfl<;>rfl
theorem itoa_call (n:Int) (h0: -9223372036854775808≤n) (h1:n≤9223372036854775807) (w:World) (hp:Pow w):Calls Tryz.prog 26 #[.int .i64 n] w fun e w'=>e=.returned (.string ⟨(Lib.itoa n).toArray⟩)∧Below w.heap.size w w':=by
 refine(sh_strconv_Itoa n h0 h1 w hp).mono ?_;rintro e w' ⟨rfl,k,os,rfl⟩;refine⟨rfl,rfl,rfl,rfl,by simp[Go.Sort.grow,World.drewN],fun k hk=>?_⟩;simp only[Go.Sort.grow,World.drewN];rw[Array.getElem?_append_left hk]
theorem cell_up {w:World} {g j:Nat} {x:Value} (h:w.cell? ⟨g,j,none⟩=some x) (o:Obj):(w.alloc o).cell? ⟨g,j,none⟩=some x:=(World.grownBy_alloc w o none).cell h (by simp)
theorem cell9 (w:World) (cs:Array Value) (i:Nat):(w.alloc (.cells cs 9)).cell? ⟨w.heap.size,i,none⟩=cs[i]?:=cell_of_row _ _ _ _ _ _ (heap_alloc_new w _)
theorem wpAnyH_more {P:Program} {md:Region.Mode} {ops:Array Oper} {Q:Exit→Act→World→Prop} {S S':World→Prop} (hS:∀w,S' w→S w):∀(fuel:Nat) (listed:Array Bool) (a:Act) (w:World),wpAnyH P md ops Q S' fuel listed a w→wpAnyH P md ops Q S fuel listed a w
 | 0,_,_,_,h=>h
 | fuel+1,_,_,_,h=>⟨h.1,fun i hi=>wpOp_mono (fun a' w' h'=>⟨hS w' h'.1,wpAnyH_more hS fuel _ a' w' h'.2⟩) (h.2 i hi)⟩
theorem info9:(Tryz.prog.info? 9).map (fun i=>(i.zero,i.size,i.bytes))=some (some (.string ⟨#[]⟩),1,16):=by kernel_rfl
def wordVs (e:Ev):List Value:=(wordsOf e).map txtV
theorem digits_len:∀(k u:Nat),u < 10 ^ (k+1)→(Lib.decDigits u).length≤k+1
 | 0,u,h=>by rw[Lib.decDigits_one (by simpa using h)];simp
 | k+1,u,h=>by
  by_cases h1:u < 10
  ·rw[Lib.decDigits_one h1];simp
  ·rw[Lib.decDigits,dif_neg h1,List.length_append];have:=digits_len k (u / 10) (by rw[Nat.div_lt_iff_lt_mul (by omega)];rw[Nat.pow_succ] at h;exact h);simp only[List.length_singleton];omega
theorem itoa_len (n:Int) (h: -1000000≤n∧n≤1000000):(Lib.itoa n).length≤8:=by
 unfold Lib.itoa
 split
 ·have:=digits_len 6 n.natAbs (by omega);simp only[List.length_cons];omega
 ·have:=digits_len 6 n.toNat (by omega);omega
theorem typeN_len {n:Int} (h0:1≤n) (h1:n≤4):(typeN n).length≤6:=by
 have:n=1∨n=2∨n=3∨n=4:=by omega
 rcases this with rfl | rfl | rfl | rfl<;>decide
theorem kindN_len {n:Int} (h0:1≤n) (h1:n≤12):(kindN n).length≤6:=by
 have:n=1∨n=2∨n=3∨n=4∨n=5∨n=6∨n=7∨n=8∨n=9∨n=10∨n=11∨n=12:=by omega
 rcases this with rfl | rfl | rfl | rfl | rfl | rfl | rfl | rfl | rfl | rfl | rfl | rfl<;>decide
theorem own_below {w w1:World} {B t sz n:Nat} {v:Value} {xs:List Value} (h:w.ownsRow B t sz v n xs) (hb:Below w.heap.size w w1):w1.ownsRow B t sz v n xs:=by
 refine⟨h.1,h.2.imp id ?_⟩;rintro⟨g,cap,cur,hv,hB,hg,r⟩;exact⟨g,cap,cur,hv,hB,(hb.block g (Array.getElem?_eq_some_iff.1 hg).1).trans hg,r⟩
attribute [local go_sem ↓] Go.wp_at_zero Go.wp_at_succ
def SmallE (e:Ev):Prop:=NamedE e∧(-1000000≤e.p∧e.p≤1000000)∧(-1000000≤e.k∧e.k≤1000000)∧(-1000000≤e.a∧e.a≤1000000)∧(-1000000≤e.b∧e.b≤1000000)∧(-1000000≤e.r∧e.r≤1000000)
theorem line_len (e:Ev) (h:SmallE e):(lineB e).length≤58:=by
 have l0:=itoa_len _ h.2.1;have l1:=itoa_len _ h.2.2.1;have l2:=itoa_len _ h.2.2.2.1;have l3:=itoa_len _ h.2.2.2.2.1;have l4:=itoa_len _ h.2.2.2.2.2;have l5:=typeN_len h.1.1 h.1.2.1;have l6:=kindN_len h.1.2.2.1 h.1.2.2.2;simp only[lineB,wordsOf,join_two,Lib.join_one,List.length_append,List.length_cons];omega
set_option maxHeartbeats 4000000 in
theorem line_any (e:Ev) (w:World) (he:SmallE e) (hp:Pow w) (h9:4≤w.heap.size):
  Calls Tryz.prog 61 #[e.agg] w fun x w'=>x=.returned (.string ⟨(lineB e).toArray⟩)∧Below w.heap.size w w':=by
 have HP:=hideIt hp;obtain⟨⟨t1,t4,d1,d12⟩,p1,k1,a1,b1,r1⟩:=he;have HT0:=hideIt (type_cell t1 t4);have HK0:=hideIt (kind_cell d1 d12);obtain⟨tb,htb⟩:∃tb:ByteArray,tb=⟨(typeN e.t).toArray⟩:=⟨_,rfl⟩;obtain⟨kb,hkb⟩:∃kb:ByteArray,kb=⟨(kindN e.d).toArray⟩:=⟨_,rfl⟩;have HT:Hid (typeCells[e.t.toNat]?=some (.string tb)):=by rw[htb];exact HT0.out
 have HK:Hid (kindCells[e.d.toNat]?=some (.string kb)):=by rw[hkb];exact HK0.out
 have HTB:=hideIt htb;have HKB:=hideIt hkb;clear htb hkb HT0 HK0;have HI:=hideIt (fun (n:Int) (h: -1000000≤n∧n≤1000000) (W:World) (hb:Below w.heap.size w W)=>itoa_call n (by omega) (by omega) W (HP.out.below hb h9));have HBX:=hideIt (belA (Below.refl w.heap.size w) (.cells #[.int .i64 e.p,.int .i64 e.t,.int .i64 e.k,.int .i64 e.d,.int .i64 e.a,.int .i64 e.b,.int .i64 e.r] 54));obtain⟨W0,hW0⟩:∃W0,W0=w.alloc (.cells #[.int .i64 e.p,.int .i64 e.t,.int .i64 e.k,.int .i64 e.d,.int .i64 e.a,.int .i64 e.b,.int .i64 e.r] 54):=⟨_,rfl⟩;have x0:W0.cell? ⟨w.heap.size,0,none⟩=some (.int .i64 e.p):=by rw[hW0];simp
 have x1:W0.cell? ⟨w.heap.size,1,none⟩=some (.int .i64 e.t):=by rw[hW0];simp
 have x2:W0.cell? ⟨w.heap.size,2,none⟩=some (.int .i64 e.k):=by rw[hW0];simp
 have x3:W0.cell? ⟨w.heap.size,3,none⟩=some (.int .i64 e.d):=by rw[hW0];simp
 have x4:W0.cell? ⟨w.heap.size,4,none⟩=some (.int .i64 e.a):=by rw[hW0];simp
 have x5:W0.cell? ⟨w.heap.size,5,none⟩=some (.int .i64 e.b):=by rw[hW0];simp
 have x6:W0.cell? ⟨w.heap.size,6,none⟩=some (.int .i64 e.r):=by rw[hW0];simp
 have hs0:W0.heap.size=w.heap.size+1:=by rw[hW0];simp
 rw[←hW0] at HBX;have HX:Hid (∀W,Below W0.heap.size W0 W→W.cell? ⟨w.heap.size,0,none⟩=some (.int .i64 e.p)∧W.cell? ⟨w.heap.size,1,none⟩=some (.int .i64 e.t)∧W.cell? ⟨w.heap.size,2,none⟩=some (.int .i64 e.k)∧W.cell? ⟨w.heap.size,3,none⟩=some (.int .i64 e.d)∧W.cell? ⟨w.heap.size,4,none⟩=some (.int .i64 e.a)∧W.cell? ⟨w.heap.size,5,none⟩=some (.int .i64 e.b)∧W.cell? ⟨w.heap.size,6,none⟩=some (.int .i64 e.r)):=fun W hW=>by
  have hlt:w.heap.size < W0.heap.size:=by omega
  exact⟨(hW.cell hlt).trans x0,(hW.cell hlt).trans x1,(hW.cell hlt).trans x2,(hW.cell hlt).trans x3,(hW.cell hlt).trans x4,(hW.cell hlt).trans x5,(hW.cell hlt).trans x6⟩
 have HW0:=hideIt hW0;unfold Ev.agg;clear hp hW0;go_enter Tryz.func61,Tryz.ntmps61
 go_wp2_with fail
 rw[←HW0.out];have ht0:(0:Int)≤e.t:=by omega
 have ht5:e.t < 5:=by omega
 have hd0:(0:Int)≤e.d:=by omega
 have hd13:e.d < 13:=by omega
 refine wp_region_held_drew (S:=fun w'=>w'.cell? ⟨w.heap.size,0,none⟩=some (.int .i64 e.p)∧w'.cell? ⟨w.heap.size,1,none⟩=some (.int .i64 e.t)∧w'.cell? ⟨w.heap.size,3,none⟩=some (.int .i64 e.d)) (by kernel_rfl) ⟨(by simpa using x0),(by simpa using x1),(by simpa using x3)⟩ (fun hHeld=>?_);refine tkH 0 ?_ rfl ?_ ?_;rotate_left 1
 ·intro w ⟨s0,s1,s2⟩;go_simp;all_goals with_reducible rfl
 simp only[Act.put,p4,p5];refine tkH 1 ?_ rfl ?_ ?_;rotate_left 1
 ·intro w ⟨s0,s1,s2⟩;go_simp;all_goals with_reducible rfl
 simp only[Act.put,p4,p5,p6];refine tkH 4 ?_ rfl ?_ ?_;rotate_left 1
 ·intro w ⟨s0,s1,s2⟩;go_simp;all_goals with_reducible rfl
 simp only[Act.put,p4,p5,p6];refine tkH 5 ?_ rfl ?_ ?_;rotate_left 1
 ·intro w ⟨s0,s1,s2⟩;go_simp;all_goals with_reducible rfl
 simp only[Act.put,p4,p5,p6];refine tkH 9 ?_ rfl ?_ ?_;rotate_left 1
 ·intro w ⟨s0,s1,s2⟩;go_simp;all_goals with_reducible rfl
 simp only[Act.put,p4,p5,p6];refine tkH 10 ?_ rfl ?_ ?_;rotate_left 1
 ·intro w ⟨s0,s1,s2⟩;go_simp;all_goals with_reducible rfl
 simp only[Act.put,p4,p5,p6];refine wpAnyH_ready (rs:= [2]) (by kernel_rfl) (by simp) (AllReadyH.cons rfl (fun K hK=>?_) AllReadyH.nil);go_simp;refine(HI.out _ p1 _ (belJ HBX.out (Below.drew (Below.refl _ _)))).mono ?_;rintro x w1 ⟨rfl,hb1⟩;have HB1:Hid (Below W0.heap.size W0 w1):=(Below.drew (Below.refl W0.heap.size W0)).trans hb1;clear hb1;refine hK.out _ _ ?_ (fun hHeld=>?_)
 ·exact⟨(HX.out w1 HB1.out).1,(HX.out w1 HB1.out).2.1,(HX.out w1 HB1.out).2.2.2.1⟩
 clear hK K;refine wpAnyH_ready (rs:= [3]) (by kernel_rfl) (by simp) (AllReadyH.cons rfl (fun K hK=>?_) AllReadyH.nil);go_simp;refine(typeNames_any _).mono ?_;rintro x w2 ⟨rfl,hw2⟩;have HB2:Hid (Below W0.heap.size W0 w2):=(by rw[hw2];exact HB1.out.alloc HB1.out.size _);have ct:w2.cell? ⟨w1.heap.size,e.t.toNat,none⟩=some (.string tb):=(by rw[hw2,cell9];exact HT.out);have hlt:w1.heap.size < w2.heap.size:=(by rw[hw2];simp);clear hw2;refine hK.out _ _ ?_ (fun hHeld=>?_)
 ·exact⟨(HX.out w2 HB2.out).1,(HX.out w2 HB2.out).2.1,(HX.out w2 HB2.out).2.2.2.1⟩
 clear hK K;refine wpAnyH_more (S':=fun w'=>(w'.cell? ⟨w.heap.size,0,none⟩=some (.int .i64 e.p)∧w'.cell? ⟨w.heap.size,1,none⟩=some (.int .i64 e.t)∧w'.cell? ⟨w.heap.size,3,none⟩=some (.int .i64 e.d))∧w'.cell? ⟨w1.heap.size,e.t.toNat,none⟩=some (.string tb)) (fun _ h=>h.1) _ _ _ _ ?_;have hHeld2:=And.intro hHeld ct;clear hHeld;refine tkH 6 ?_ rfl ?_ ?_;rotate_left 1
 ·intro w ⟨⟨s0,s1,s2⟩,s3⟩;go_simp;all_goals with_reducible rfl
 simp only[Act.put,p4,p5,p6];refine tkH 7 ?_ rfl ?_ ?_;rotate_left 1
 ·intro w ⟨⟨s0,s1,s2⟩,s3⟩;go_simp;all_goals with_reducible rfl
 simp only[Act.put,p4,p5,p6];refine wpAnyH_ready (rs:= [8]) (by kernel_rfl) (by simp) (AllReadyH.cons rfl (fun K hK=>?_) AllReadyH.nil);go_simp;refine(kindNames_any _).mono ?_;rintro x w3 ⟨rfl,hw3⟩;have HB3:Hid (Below W0.heap.size W0 w3):=(by rw[hw3];exact HB2.out.alloc HB2.out.size _);have ct3:w3.cell? ⟨w1.heap.size,e.t.toNat,none⟩=some (.string tb):=(by rw[hw3];exact cell_up ct _);have ck:w3.cell? ⟨w2.heap.size,e.d.toNat,none⟩=some (.string kb):=(by rw[hw3,cell9];exact HK.out);clear hw3;refine hK.out _ _ ?_ (fun hHeld=>?_)
 ·exact⟨⟨(HX.out w3 HB3.out).1,(HX.out w3 HB3.out).2.1,(HX.out w3 HB3.out).2.2.2.1⟩,ct3⟩
 clear hK K;refine wpAnyH_more (S':=fun w'=>((w'.cell? ⟨w.heap.size,0,none⟩=some (.int .i64 e.p)∧w'.cell? ⟨w.heap.size,1,none⟩=some (.int .i64 e.t)∧w'.cell? ⟨w.heap.size,3,none⟩=some (.int .i64 e.d))∧w'.cell? ⟨w1.heap.size,e.t.toNat,none⟩=some (.string tb))∧w'.cell? ⟨w2.heap.size,e.d.toNat,none⟩=some (.string kb)) (fun _ h=>h.1) _ _ _ _ ?_;have hHeld3:=And.intro hHeld ck;clear hHeld hHeld2;refine tkH 11 ?_ rfl ?_ ?_;rotate_left 1
 ·intro w ⟨⟨⟨s0,s1,s2⟩,s3⟩,s4⟩;go_simp;all_goals with_reducible rfl
 simp only[Act.put,p4,p5,p6];refine tkH 12 ?_ rfl ?_ ?_;rotate_left 1
 ·intro w ⟨⟨⟨s0,s1,s2⟩,s3⟩,s4⟩;go_simp;all_goals with_reducible rfl
 simp only[Act.put,p4,p5,p6];refine wpAnyH_ready (rs:= [13]) (by kernel_rfl) (by simp) (AllReadyH.cons rfl (fun K hK=>?_) AllReadyH.nil);go_simp;refine hK.out _ _ ?_ (fun hHeld=>?_)
 ·have HB4:=HB3.out.alloc HB3.out.size (.cells #[.string ⟨(Lib.itoa e.p).toArray⟩,.string tb,.string kb] 9);exact⟨⟨⟨(HX.out _ HB4).1,(HX.out _ HB4).2.1,(HX.out _ HB4).2.2.2.1⟩,cell_up ct3 _⟩,cell_up ck _⟩
 clear hK K hHeld3;refine tkH 14 ?_ rfl ?_ ?_;rotate_left 1
 ·intro w ⟨⟨⟨s0,s1,s2⟩,s3⟩,s4⟩;go_simp;all_goals with_reducible rfl
 simp only[Act.put,p4,p5,p6];refine wpAnyH_done (by kernel_rfl) ?_ _;clear hHeld;have HB4:=hideIt (HB3.out.alloc HB3.out.size (.cells #[.string ⟨(Lib.itoa e.p).toArray⟩,.string tb,.string kb] 9));have HO:Hid ((w3.alloc (.cells #[.string ⟨(Lib.itoa e.p).toArray⟩,.string tb,.string kb] 9)).ownsRow w.heap.size 9 1 (.slice (some ⟨w3.heap.size,0,none⟩) 3 3) 3 ((wordVs e).take 3)):=(by
  have h3:=(belJ HBX.out HB3.out).size;refine⟨rfl,.inr ⟨w3.heap.size,3,#[.string ⟨(Lib.itoa e.p).toArray⟩,.string tb,.string kb],rfl,h3,heap_alloc_new _ _,by omega,by decide,rfl,?_⟩⟩;rw[HTB.out,HKB.out];rfl)
 obtain⟨W4,hW4⟩:∃W4,W4=w3.alloc (.cells #[.string ⟨(Lib.itoa e.p).toArray⟩,.string tb,.string kb] 9):=⟨_,rfl⟩;rw[←hW4] at HB4 HO;rw[←hW4];obtain⟨z0,z1,z2,z3,z4,z5,z6⟩:=HX.out W4 HB4.out;clear ct ct3 ck hlt hW4 x0 x1 x2 x3 x4 x5 x6 HX HB1 HB2 HT HK HTB HKB z0 z1 z3;generalize w3.heap.size=g3 at*
 go_wp2_with fail
 have HB5:=hideIt (belJ HBX.out HB4.out);clear z2 z4 z5 z6;obtain⟨i0,hi,hz0,hz1,hz2⟩:=info_parts info9
 go_loopw [3,29] (fun v i wr=>∃k:Nat,k≤4∧i=.int .i64 k∧wr.ownsRow w.heap.size 9 1 v (3+k) ((wordVs e).take (3+k))∧Below w.heap.size w wr) (fun _ i _=>4 - (intOf i).toNat)
 case atStart=>exact⟨0,Nat.zero_le _,rfl,HO.out,HB5.out⟩
 case round=>
  obtain⟨k,hk,rfl,hown,hnx⟩:=hrel;have HOW:=hideIt hown;have HNX:=hideIt hnx;clear hown hnx HO HB5 HB4 HB3;have hk4:k=0∨k=1∨k=2∨k=3∨k=4:=by omega
  have j0:∀w:World,(Instr.index 215 (.agg #[.int .i64 e.k,.int .i64 e.a,.int .i64 e.b,.int .i64 e.r]) (.int .i64 0)).run Tryz.prog w=.ok (.int .i64 e.k) w:=fun _=>by kernel_rfl
  have j1:∀w:World,(Instr.index 215 (.agg #[.int .i64 e.k,.int .i64 e.a,.int .i64 e.b,.int .i64 e.r]) (.int .i64 1)).run Tryz.prog w=.ok (.int .i64 e.a) w:=fun _=>by kernel_rfl
  have j2:∀w:World,(Instr.index 215 (.agg #[.int .i64 e.k,.int .i64 e.a,.int .i64 e.b,.int .i64 e.r]) (.int .i64 2)).run Tryz.prog w=.ok (.int .i64 e.b) w:=fun _=>by kernel_rfl
  have j3:∀w:World,(Instr.index 215 (.agg #[.int .i64 e.k,.int .i64 e.a,.int .i64 e.b,.int .i64 e.r]) (.int .i64 3)).run Tryz.prog w=.ok (.int .i64 e.r) w:=fun _=>by kernel_rfl
  rcases hk4 with rfl | rfl | rfl | rfl | rfl
  ·go_wp2_with (first
    | (go_at_call 26;refine(HI.out e.k k1 _ HNX.out).mono ?_;rintro x w5 ⟨rfl,hb5⟩;have HO5:=hideIt (own_below HOW.out hb5);have HN5:=hideIt (belJ HNX.out hb5);clear hb5)
    | (at_builtin;refine wpList_append_own _ rfl _ _ 72 rfl w.heap.size 9 i0 _ 1 16 Tryz.underlying72 hi hz0 hz1 hz2 rfl (by decide) _ _ _ rfl (HO5.out.alloc _) ⟨w5.heap.size,0,none⟩ 1 1 [.string ⟨(Lib.itoa e.k).toArray⟩] rfl rfl ?c1 ?c2 ?c3 ?c4 ?c5 ?_))
   case c1=>
    intro j u hj
    match j,hj with
    | 0,hj=>simp at hj;subst hj;simp[Addr.add]
    | n+1,hj=>simp at hj
   case c2=>intro u hu;simp at hu;subst hu;rfl
   case c3=>decide
   case c4=>decide
   case c5=>simp;have:=HN5.out.size;omega
   intro v' w6 hown' hgrow _;have R1:Hid (w6.ownsRow w.heap.size 9 1 v' (3+1) ((wordVs e).take (3+1))):=hown';have R2:Hid (Below w.heap.size w w6):=(belA HN5.out _).grown hgrow (by simp;have:=HN5.out.size;omega) (fun g hg=>(HO5.out.lt g hg).1);clear hown' hgrow;go_wp2
   go_roundw
   case rel=>exact⟨1,by omega,by go_num,R1.out,R2.out⟩
   case measure=>simp[intOf]
  ·go_wp2_with (first
    | (go_at_call 26;refine(HI.out e.a a1 _ HNX.out).mono ?_;rintro x w5 ⟨rfl,hb5⟩;have HO5:=hideIt (own_below HOW.out hb5);have HN5:=hideIt (belJ HNX.out hb5);clear hb5)
    | (at_builtin;refine wpList_append_own _ rfl _ _ 72 rfl w.heap.size 9 i0 _ 1 16 Tryz.underlying72 hi hz0 hz1 hz2 rfl (by decide) _ _ _ rfl (HO5.out.alloc _) ⟨w5.heap.size,0,none⟩ 1 1 [.string ⟨(Lib.itoa e.a).toArray⟩] rfl rfl ?c1 ?c2 ?c3 ?c4 ?c5 ?_))
   case c1=>
    intro j u hj
    match j,hj with
    | 0,hj=>simp at hj;subst hj;simp[Addr.add]
    | n+1,hj=>simp at hj
   case c2=>intro u hu;simp at hu;subst hu;rfl
   case c3=>decide
   case c4=>decide
   case c5=>simp;have:=HN5.out.size;omega
   intro v' w6 hown' hgrow _;have R1:Hid (w6.ownsRow w.heap.size 9 1 v' (3+2) ((wordVs e).take (3+2))):=hown';have R2:Hid (Below w.heap.size w w6):=(belA HN5.out _).grown hgrow (by simp;have:=HN5.out.size;omega) (fun g hg=>(HO5.out.lt g hg).1);clear hown' hgrow;go_wp2
   go_roundw
   case rel=>exact⟨2,by omega,by go_num,R1.out,R2.out⟩
   case measure=>simp[intOf]
  ·go_wp2_with (first
    | (go_at_call 26;refine(HI.out e.b b1 _ HNX.out).mono ?_;rintro x w5 ⟨rfl,hb5⟩;have HO5:=hideIt (own_below HOW.out hb5);have HN5:=hideIt (belJ HNX.out hb5);clear hb5)
    | (at_builtin;refine wpList_append_own _ rfl _ _ 72 rfl w.heap.size 9 i0 _ 1 16 Tryz.underlying72 hi hz0 hz1 hz2 rfl (by decide) _ _ _ rfl (HO5.out.alloc _) ⟨w5.heap.size,0,none⟩ 1 1 [.string ⟨(Lib.itoa e.b).toArray⟩] rfl rfl ?c1 ?c2 ?c3 ?c4 ?c5 ?_))
   case c1=>
    intro j u hj
    match j,hj with
    | 0,hj=>simp at hj;subst hj;simp[Addr.add]
    | n+1,hj=>simp at hj
   case c2=>intro u hu;simp at hu;subst hu;rfl
   case c3=>decide
   case c4=>decide
   case c5=>simp;have:=HN5.out.size;omega
   intro v' w6 hown' hgrow _;have R1:Hid (w6.ownsRow w.heap.size 9 1 v' (3+3) ((wordVs e).take (3+3))):=hown';have R2:Hid (Below w.heap.size w w6):=(belA HN5.out _).grown hgrow (by simp;have:=HN5.out.size;omega) (fun g hg=>(HO5.out.lt g hg).1);clear hown' hgrow;go_wp2
   go_roundw
   case rel=>exact⟨3,by omega,by go_num,R1.out,R2.out⟩
   case measure=>simp[intOf]
  ·go_wp2_with (first
    | (go_at_call 26;refine(HI.out e.r r1 _ HNX.out).mono ?_;rintro x w5 ⟨rfl,hb5⟩;have HO5:=hideIt (own_below HOW.out hb5);have HN5:=hideIt (belJ HNX.out hb5);clear hb5)
    | (at_builtin;refine wpList_append_own _ rfl _ _ 72 rfl w.heap.size 9 i0 _ 1 16 Tryz.underlying72 hi hz0 hz1 hz2 rfl (by decide) _ _ _ rfl (HO5.out.alloc _) ⟨w5.heap.size,0,none⟩ 1 1 [.string ⟨(Lib.itoa e.r).toArray⟩] rfl rfl ?c1 ?c2 ?c3 ?c4 ?c5 ?_))
   case c1=>
    intro j u hj
    match j,hj with
    | 0,hj=>simp at hj;subst hj;simp[Addr.add]
    | n+1,hj=>simp at hj
   case c2=>intro u hu;simp at hu;subst hu;rfl
   case c3=>decide
   case c4=>decide
   case c5=>simp;have:=HN5.out.size;omega
   intro v' w6 hown' hgrow _;have R1:Hid (w6.ownsRow w.heap.size 9 1 v' (3+4) ((wordVs e).take (3+4))):=hown';have R2:Hid (Below w.heap.size w w6):=(belA HN5.out _).grown hgrow (by simp;have:=HN5.out.size;omega) (fun g hg=>(HO5.out.lt g hg).1);clear hown' hgrow;go_wp2
   go_roundw
   case rel=>exact⟨4,by omega,by go_num,R1.out,R2.out⟩
   case measure=>simp[intOf]
  ·obtain⟨_,hv | ⟨g,cap,cur,hv,hB,hg,hn,hm,hs,ht⟩⟩:=HOW.out
   ·exact absurd hv.2 (by omega)
   subst hv;have hgl:g < wr.heap.size:=(Array.getElem?_eq_some_iff.1 hg).1;have hj:=sh_strings_Join g 0 cap ((wordsOf e).map fun l=>⟨l.toArray⟩) ⟨#[32]⟩ wr (fun j x hx=>by
    have hx2:((wordVs e).take (3+4))[j]?=some (.string x):=by
     rw[show (wordVs e).take (3+4)=wordVs e from rfl];rw[List.getElem?_map] at hx;obtain⟨l,hl,rfl⟩:=Option.map_eq_some_iff.1 hx;rw[wordVs,List.getElem?_map,hl];rfl
    rw[←ht] at hx2;have hc:cur[j]?=some (.string x):=by
     rw[List.getElem?_take] at hx2
     split at hx2
     ·rw[←Array.getElem?_toList];exact hx2
     ·cases hx2
    rw[Nat.zero_add,cell_of_row _ _ _ _ _ _ hg];exact hc) hgl (by simp[wordsOf]) (by simpa [wordsOf] using hn) (by
    have e1:List.map (fun x:ByteArray=>x.data.toList) ((wordsOf e).map fun l=>⟨l.toArray⟩)=wordsOf e:=by simp[Function.comp_def]
    rw[e1];have:=line_len e ⟨⟨t1,t4,d1,d12⟩,p1,k1,a1,b1,r1⟩;exact Nat.le_trans this (by omega))
   have HJ:=hideIt hj;clear hj hg ht;go_wp2_with (go_at_call 29;refine HJ.out.mono ?_;rintro x w5 ⟨rfl,hb5⟩)
   go_ret;refine⟨?_,belJ HNX.out hb5⟩;have:List.map ((fun x=>x.data.toList) ∘ fun l=>({data:=l.toArray} :ByteArray)) (wordsOf e)=wordsOf e:=by simp[Function.comp_def]
   rw[this];rfl
open Go.RowKit
theorem builder_below {T t B b:Nat} {bs:List Value} {w w1:World} (h:Lib.IsBuilder T t B b bs w) (hb:Below w.heap.size w w1):Lib.IsBuilder T t B b bs w1:=by
 have k:∀p,Lib.BuilderAt T t B b p bs w→Lib.BuilderAt T t B b p bs w1:=by
  rintro p ⟨h1,v,h2,h3,h4⟩;exact⟨h1,v,(hb.block b (Array.getElem?_eq_some_iff.1 h2).1).trans h2,own_below h3 hb,h4⟩
 exact h.imp (k _) (k _)
theorem small_of_fault {e:Ev} (h:e.fault=0):SmallE e:=by
 unfold Ev.fault faultN at h
 split at h
 ·rename_i h1
  split at h
  ·rename_i h2
   simp only[inB,eightB,numB,kindB,Bool.and_eq_true,decide_eq_true_eq] at h1 h2;unfold SmallE NamedE;omega
  ·cases h
 ·cases h
def TextTold (l:List Ev) (x:Ending):Prop:=
 ((120 < l.length∨∃e∈l,e.fault≠0)∧(x=.returned (.tuple #[.string ⟨#[]⟩,.iface 55 (.int .i64 4)])∨∃g,x=.returned (.tuple #[.string ⟨#[]⟩,.iface 85 (.pointer (some ⟨g,0,none⟩))])))∨
 (l.length≤120∧(∀e∈l,e.fault=0)∧x=.returned (.tuple #[.string ⟨(textB l).toArray⟩,.nilIface]))
theorem text_len (l:List Ev) (h:∀e∈l,e.fault=0):(textB l).length≤59*l.length:=by
 induction l with
 | nil=>simp[textB]
 | cons e l ih=>
  have h1:=line_len e (small_of_fault (h e (by simp)));have h2:=ih (fun x hx=>h x (by simp[hx]));simp only[textB,List.flatMap_cons,List.length_append,List.length_cons,List.length_nil] at h2 ⊢;omega
theorem textB_succ (l:List Ev) (k:Nat) (h:k < l.length):textB (l.take (k+1))=textB (l.take k)++(lineB l[k]++ [10]):=by
 unfold textB;rw[List.take_succ_eq_append_getElem h,List.flatMap_append];simp
set_option maxHeartbeats 4000000 in
theorem text_some (l:List Ev) (b off cap:Nat) (w:World) (hlen:l.length≤120) (hl:EvsAt w b off l) (hb:b < w.heap.size) (hp:Pow w) (h9:4≤w.heap.size):
  Calls Tryz.prog 25 #[.slice (some ⟨b,off,none⟩) l.length cap] w fun x w'=>TextTold l x∧Below w.heap.size w w':=by
 have HL:=hideIt hl;have HP:=hideIt hp;clear hl hp;have h120:decide (120 < (l.length:Int))=false:=by simp;omega
 go_enter Tryz.func25,Tryz.ntmps25
 go_wp2
 go_loopw [14] (fun i wr=>∃k:Nat,k≤l.length∧i=.int .i64 k∧(∀e∈l.take k,e.fault=0)∧Lib.IsBuilder 136 5 w.heap.size w.heap.size (Lib.byteCells (textB (l.take k))) wr∧Below w.heap.size w wr) (fun i _=>l.length - (intOf i).toNat)
 case atStart=>exact⟨0,Nat.zero_le _,rfl,(by simp),Lib.fresh_isBuilder 136 5 w,belA (Below.refl _ _) _⟩
 case round=>
  obtain⟨k,hk,rfl,hf,hh,hnx⟩:=hrel;have HF0:=hideIt hf;have HH:=hideIt hh;have HNX:=hideIt hnx;have hsz:=hnx.size;clear hf hh;by_cases hkl:k < l.length
  ·obtain⟨e,HE⟩:∃e,Hid (l[k]=e):=⟨_,hideIt rfl⟩;have hc:=(HL.out k hkl).below hb hnx;rw[HE.out] at hc;obtain⟨c0,c1,c2,c3,c4,c5,c6⟩:=hc;have HF:Hid (∀W,Calls Tryz.prog 59 #[.agg #[.int .i64 e.p,.int .i64 e.t,.int .i64 e.k,.int .i64 e.d,.int .i64 e.a,.int .i64 e.b,.int .i64 e.r]] W fun ev w'=>ev=.returned (.int .i64 e.fault)∧w'=W.alloc (.cells #[.int .i64 e.p,.int .i64 e.t,.int .i64 e.k,.int .i64 e.d,.int .i64 e.a,.int .i64 e.b,.int .i64 e.r] 54)):=fun W=>fault_any e.p e.t e.k e.d e.a e.b e.r W
   obtain⟨n,HN⟩:∃n,Hid (e.fault=n):=⟨_,hideIt rfl⟩;rw[HN.out] at HF;clear hnx;by_cases hz:n=0
   ·have hz':(n != 0)=false:=by simp[hz]
    have HE0:Hid (e.fault=0):=hideIt (HN.out.trans hz);clear hz;have HLI:=hideIt (fun (W:World) (hW:Below w.heap.size w W)=>line_any e W (small_of_fault HE0.out) (HP.out.below hW h9) (Nat.le_trans h9 hW.size));unfold Ev.agg at HLI;go_wp2_with fail
    refine(HF.out _).mono ?_;rintro x w1 ⟨rfl,rfl⟩;go_wp2_with fail
    have hW2:=belA (belA HNX.out (.cells #[.int .i64 e.p,.int .i64 e.t,.int .i64 e.k,.int .i64 e.d,.int .i64 e.a,.int .i64 e.b,.int .i64 e.r] 54)) (.cells #[.int .i64 e.p,.int .i64 e.t,.int .i64 e.k,.int .i64 e.d,.int .i64 e.a,.int .i64 e.b,.int .i64 e.r] 54);refine(HLI.out _ hW2).mono ?_;rintro x w3 ⟨rfl,hb3⟩;have hB3:=builder_below (builder_below HH.out (belA (belA (Below.refl _ _) _) _)) hb3;have HB3:=hideIt hB3;have HW3:=hideIt (belJ hW2 hb3);have HS:=hideIt (sh_WriteString w.heap.size w.heap.size _ ⟨(lineB e).toArray⟩ w3 hB3 (by
     rw[Lib.byteCells_length];have h1:=text_len _ HF0.out;have h2:=line_len e (small_of_fault HE0.out);have h3:(l.take k).length=k:=by simp;omega
     have h4:(⟨(lineB e).toArray⟩:ByteArray).size=(lineB e).length:=by simp[ByteArray.size]
     omega) (belJ hW2 hb3).size)
    clear hW2 hb3 hB3;go_wp2_with fail
    refine HS.out.mono ?_;rintro x w4 ⟨rfl,hb4,hl4⟩;have HW4:=hideIt (HW3.out.trans hl4);have HS2:=hideIt (sh_WriteByte w.heap.size w.heap.size _ 10 w4 (.inr hb4) (by
     rw[List.length_append,Lib.byteCells_length,Lib.strCells_length];have h1:=text_len _ HF0.out;have h2:=line_len e (small_of_fault HE0.out);have h3:(l.take k).length=k:=by simp;omega
     have h4:(⟨(lineB e).toArray⟩:ByteArray).size=(lineB e).length:=by simp[ByteArray.size]
     omega) HW4.out.size)
    clear hb4 hl4;go_wp2_with fail
    refine HS2.out.mono ?_;rintro x w5 ⟨rfl,hb5,hl5⟩;have R1:Hid (∀e∈l.take (k+1),e.fault=0):=hideIt (fun y hy=>by
     rw[List.take_succ_eq_append_getElem hkl,List.mem_append,List.mem_singleton] at hy;rcases hy with hy | rfl
     ·exact HF0.out y hy
     ·rw[HE.out];exact HE0.out)
    have R2:Hid (Lib.IsBuilder 136 5 w.heap.size w.heap.size (Lib.byteCells (textB (l.take (k+1)))) w5):=hideIt (by
     refine .inr ?_;rw[textB_succ l k hkl,HE.out,Lib.byteCells_append,Lib.byteCells_append,←List.append_assoc];exact hb5)
    have R3:=hideIt (HW4.out.trans hl5);clear hb5 hl5;go_wp2
    go_roundw
    case rel=>exact⟨k+1,by omega,by go_num,R1.out,R2.out,R3.out⟩
    case measure=>simp[intOf];omega
   ·have hz':(n != 0)=true:=by simp[hz]
    have R1:Hid (∃e∈l,e.fault≠0):=hideIt ⟨l[k],List.getElem_mem hkl,by rw[HE.out,HN.out];exact hz⟩;clear hz;go_wp2_with fail
    refine(HF.out _).mono ?_;rintro x w1 ⟨rfl,rfl⟩;go_wp2;go_ret2;exact⟨.inl ⟨.inr R1.out,.inr ⟨_,rfl⟩⟩,belA (belA (belA HNX.out _) _) _⟩
  ·have HK:Hid (l.take k=l):=hideIt (List.take_of_length_le (by omega));have hfl:=HF0.out;rw[HK.out] at hfl HH;have HFL:=hideIt hfl;have HC:=hideIt (sh_Builder_String_any w.heap.size w.heap.size (textB l) wr HH.out hsz);clear hfl hnx;go_wp2_with fail
   refine HC.out.mono ?_;rintro x w1 ⟨rfl,hb1⟩;have R3:=hideIt (HNX.out.trans hb1);clear hb1;go_wp2;go_ret2;exact⟨.inr ⟨hlen,HFL.out,rfl⟩,R3.out⟩
set_option maxHeartbeats 1000000 in
theorem text_none (a:Option Addr) (cap:Nat) (w:World):
  Calls Tryz.prog 25 #[.slice a 0 cap] w fun x w'=>TextTold [] x∧Below w.heap.size w w':=by
 go_enter Tryz.func25,Tryz.ntmps25
 go_wp2;refine wp_loop_rounds 1 ?_;rw[rounds_succ];go_wp2_with fail
 refine(sh_Builder_String_any w.heap.size w.heap.size [] _ (Lib.fresh_isBuilder 136 5 w) (by simp)).mono ?_;rintro x w1 ⟨rfl,hb1⟩;have R3:=hideIt ((belA (Below.refl w.heap.size w) _).trans hb1);clear hb1;go_wp2;go_ret2;exact⟨.inr ⟨by simp,by simp,rfl⟩,R3.out⟩
open Go.RowKit
theorem ord_has {w:World} {base:Nat} {ov:Value} {ord:List Nat} (h:w.ownsRow base 3 1 ov ord.length (ordV ord)):HasInts w ov (iL ord):=by
 have e:ordV ord=(iL ord).map (Value.int .i64):=by simp[ordV,iL]
 have:w.ownsRow base 3 1 ov (iL ord).length ((iL ord).map (Value.int .i64)):=by rw[iL_length,←e];exact h
 exact(rowAt_owns this).has
theorem nil_has (w:World):HasInts w (.slice none 0 0) []:=⟨none,0,rfl,by decide,by decide,fun _=>rfl,.inl rfl⟩
theorem valid_shows {o:Int} {ops:List Opn} {bud:Nat} (h:(searchM (srB o ops bud)).code=1):ShowsM o ops (iL (searchM (srB o ops bud)).ord):=by
 obtain⟨S,hR,ho⟩:=search_valid h;exact reach_shows hR ho rfl
theorem valid_len {o:Int} {ops:List Opn} {bud:Nat} (h:(searchM (srB o ops bud)).code=1):(searchM (srB o ops bud)).ord.length≤ops.length:=by
 obtain⟨S,hR,_⟩:=search_valid h;exact reach_length hR
end Go.Proofs.YtjpklmighoondaaGreatDoor
