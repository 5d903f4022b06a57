/-
  What CheckOps of package event does: it tells the first fault.
  CheckOps of no ops.
  Numbers in base 36, and names made of them, each number with an end of its own: in plain Lean; no two are alike.
  How a state of the search is named, in plain Lean: numbers in base 36, each with an end of its own; no two states have one name.
  Some ops as the bits of a number, in plain Lean.
  Package linear's bits, walked.
  Package linear's isObject and checkOps, walked.
  Package linear's ended, isWhole, isTimely: walked.
-/
import Derived.Test.YtjpklmighoondaaGreatDoorPlainRY
import Derived.Test.YtjpklmighoondaaGreatDoorFieldsQY
import Derived.WalkKit
import Derived.Test.YtjpklmighoondaaGreatDoorProg
import Derived.Laws.BitsAllLaws
import Derived.Laws.Bits64b
import Derived.Maps.OwnSet
import Derived.Carry
import Derived.Deep.RegionHeld3
namespace Go.Proofs.YtjpklmighoondaaGreatDoor
open Go.RowKit
theorem opFault_at (l:List Opn) (k:Nat) (x:Opn) (b off cap:Nat) (w:World) (hk:k≤l.length) (hlen:l.length≤60) (hl:OpsAt w b off l) (hb:b < w.heap.size):
  Calls Tryz.prog 138 #[.slice (some ⟨b,off,none⟩) k cap,x.agg] w fun e w'=>e=.returned (.int .i64 (opFaultN (l.take k) x))∧Below w.heap.size w w':=by
 have h:=opFault_any (l.take k) x b off cap w (by simp;omega) (hl.take k) hb
 rwa [List.length_take,Nat.min_eq_left hk] at h
theorem toldV_some {n:Int} (h:n≠0):toldV n=.iface 55 (.int .i64 n):=by simp[toldV,h]
theorem told4 (l:List Opn) (h:40 < l.length):Told l 4:=.inl ⟨h,rfl⟩
theorem told0 (l:List Opn) (h:l.length≤40) (h2:∀j,(h:j < l.length)→opFaultN (l.take j) l[j]=0):Told l 0:=.inr (.inl ⟨h,h2,rfl⟩)
theorem toldAt (l:List Opn) (h:l.length≤40) (k:Nat) (hk:k < l.length) (h2:∀j,(hj:j < k)→opFaultN (l.take j) (l[j]'(Nat.lt_trans hj hk))=0) (h3:opFaultN (l.take k) l[k]≠0):Told l (opFaultN (l.take k) l[k]):=.inr (.inr ⟨h,k,hk,h2,h3,rfl⟩)
def FineTo (l:List Opn) (k:Nat):Prop:=∀j,(h:j < l.length)→j < k→opFaultN (l.take j) l[j]=0
theorem fineTo_zero (l:List Opn):FineTo l 0:=fun j _ h=>by omega
theorem FineTo.succ {l:List Opn} {k:Nat} (h:FineTo l k) (hk:k < l.length) (h0:opFaultN (l.take k) l[k]=0):FineTo l (k+1):=fun j hj hjk=>by
 by_cases e:j=k
 ·subst e;exact h0
 ·exact h j hj (by omega)
set_option maxHeartbeats 1000000 in
theorem checkOps_any (l:List Opn) (b off cap:Nat) (w:World) (hlen:l.length≤60) (hcap:l.length≤cap) (hl:OpsAt w b off l) (hb:b < w.heap.size):
  Calls Tryz.prog 78 #[.slice (some ⟨b,off,none⟩) l.length cap] w fun e w'=>∃n,e=.returned (toldV n)∧Told l n∧Below w.heap.size w w':=by
 have HL:Hid (OpsAt w b off l):=hl;clear hl;by_cases h40:40 < l.length
 ·have HT:Hid (Told l 4):=told4 l h40;go_enter Tryz.func78,Tryz.ntmps78
  go_wp2;go_ret;exact⟨4,rfl,HT.out,Below.refl _ _⟩
 ·go_enter Tryz.func78,Tryz.ntmps78
  go_wp2
  go_loopw [12] (fun i wr=>∃k:Nat,k≤l.length∧i=.int .i64 k∧FineTo l k∧Below w.heap.size w wr) (fun i _=>l.length - (intOf i).toNat)
  case atStart=>exact⟨0,Nat.zero_le _,rfl,fineTo_zero l,Below.refl _ _⟩
  case round=>
   obtain⟨k,hk,rfl,hf,hnx⟩:=hrel;have HF:Hid (FineTo l k):=hf;clear hf;by_cases hkl:k < l.length
   ·obtain⟨c0,c1,c2,c3,c4,c5,c6,c7⟩:=(HL.out k hkl).below hb hnx;obtain⟨n,HN⟩:∃n,Hid (opFaultN (l.take k) l[k]=n):=⟨_,hideIt rfl⟩;have HS:Hid (∀W,Below w.heap.size w W→Calls Tryz.prog 138 #[.slice (some ⟨b,off,none⟩) k cap,l[k].agg] W fun e w'=>e=.returned (.int .i64 n)∧Below W.heap.size W w'):=fun W hW=>by
     have h:=opFault_at l k l[k] b off cap W hk hlen (HL.out.below hb hW) (Nat.lt_of_lt_of_le hb hW.size)
     rwa [HN.out] at h
    by_cases hz:n=0
    ·have hz':(n != 0)=false:=by simp[hz]
     have R1:Hid (FineTo l (k+1)):=HF.out.succ hkl (HN.out.trans hz);clear hz;go_wp2_with fail
     go_region_with (go_at_call 138;refine(HS.out _ ?_).mono ?_;(repeat (first | exact hnx | refine Below.drew ?_ | refine belA ?_ _));rintro e w1 ⟨rfl,hb1⟩)
     all_goals
      have R2:Hid (Below w.heap.size w w1):=belJ (by repeat (first | exact hnx | refine Below.drew ?_ | refine belA ?_ _)) hb1;clear hb1;go_wp2
      go_roundw
      case rel=>exact⟨k+1,by omega,by go_num,R1.out,R2.out⟩
      case measure=>simp[intOf];omega
    ·have hz':(n != 0)=true:=by simp[hz]
     have R1:Hid (Told l n):=by
      have h:=toldAt l (by omega) k hkl (fun j hj=>HF.out j (by omega) hj) (by rw[HN.out];exact hz);rw[HN.out] at h;exact h
     have R3:Hid (toldV n=.iface 55 (.int .i64 n)):=toldV_some hz;clear hz;go_wp2_with fail
     go_region_with (go_at_call 138;refine(HS.out _ ?_).mono ?_;(repeat (first | exact hnx | refine Below.drew ?_ | refine belA ?_ _));rintro e w1 ⟨rfl,hb1⟩)
     all_goals
      have R2:Hid (Below w.heap.size w w1):=belJ (by repeat (first | exact hnx | refine Below.drew ?_ | refine belA ?_ _)) hb1;clear hb1;go_wp2;go_ret;exact⟨n,by rw[R3.out];rfl,R1.out,R2.out⟩
   ·have R1:Hid (Told l 0):=told0 l (by omega) (fun j hj=>HF.out j hj (by omega));go_wp2;go_ret;exact⟨0,by rfl,R1.out,hnx⟩
open Go.RowKit
theorem toldV_zero:toldV 0=.nilIface:=by simp[toldV]
set_option maxHeartbeats 400000 in
theorem checkOps_none (a:Option Addr) (cap:Nat) (w:World):Calls Tryz.prog 78 #[.slice a 0 cap] w fun e w'=>e=.returned (toldV 0)∧w'=w:=by
 rw[toldV_zero];go_enter Tryz.func78,Tryz.ntmps78
 go_wp2;refine wp_loop_rounds 1 ?_;rw[rounds_succ];go_wp2;go_ret;exact⟨rfl,rfl⟩
def dig (i:Nat):UInt8:=if i < 10 then UInt8.ofNat (48+i) else UInt8.ofNat (87+i)
def d36 (u:Nat):List UInt8:=if _h:u < 36 then [dig u] else d36 (u / 36)++ [dig (u%36)]
decreasing_by omega
theorem d36_small {u:Nat} (h:u < 36):d36 u= [dig u]:=by unfold d36;rw[dif_pos h]
theorem d36_big {u:Nat} (h:¬u < 36):d36 u=d36 (u / 36)++ [dig (u%36)]:=by rw[d36,dif_neg h]
def n36 (x:Int):List UInt8:=if x < 0 then 45::d36 (-x).toNat else d36 x.toNat
def rowB (st:List Int):List UInt8:=st.flatMap fun x=>n36 x++ [44]
theorem rowB_cons (x:Int) (st:List Int):rowB (x::st)=n36 x++44::rowB st:=by simp[rowB]
def keysB (S:Int→List Int) (ks:List Nat):List UInt8:=ks.flatMap fun k:Nat=>59::rowB (S (k:Int))
theorem keysB_cons (S:Int→List Int) (k:Nat) (ks:List Nat):keysB S (k::ks)=59::(rowB (S k)++keysB S ks):=by simp[keysB]
theorem d36_length {u:Nat} :∀{k:Nat},0 < k→u < 36 ^ k→(d36 u).length≤k:=by
 intro k
 induction k generalizing u with
 | zero=>intro h;omega
 | succ k ih=>
  intro _ hu;by_cases h:u < 36
  ·rw[d36_small h];simp
  ·rw[d36_big h];have hk:0 < k:=by
    rcases Nat.eq_zero_or_pos k with rfl | h'
    ·simp at hu;omega
    ·exact h'
   have hu':u < 36*36 ^ k:=by rw[Nat.pow_succ] at hu;omega
   have:=ih hk (u:=u / 36) (by rw[Nat.div_lt_iff_lt_mul (by decide)];omega);simp;exact this
theorem d36_length64 {u:Nat} (h:u < 18446744073709551616):(d36 u).length≤13:=d36_length (by decide) (Nat.lt_of_lt_of_le h (by decide))
theorem d36_pos (u:Nat):0 < (d36 u).length:=by
 by_cases h:u < 36
 ·rw[d36_small h];simp
 ·rw[d36_big h];simp
def maskN (ord:List Nat):Nat:=ord.foldl (fun m n=>m||| 2 ^ n) 0
theorem maskN_snoc (ord:List Nat) (n:Nat):maskN (ord++ [n])=maskN ord||| 2 ^ n:=by simp[maskN]
theorem foldl_bit:∀(ord:List Nat) (m k:Nat),(ord.foldl (fun m n=>m||| 2 ^ n) m).testBit k=(m.testBit k||ord.contains k)
 | [],m,k=>by simp
 | n::r,m,k=>by
  rw[List.foldl_cons,foldl_bit r,Nat.testBit_or,Nat.testBit_two_pow,List.contains_cons];have:(n=k:Bool)=(k==n):=by
   rw[Bool.eq_iff_iff];simp;exact eq_comm
  rw[this];cases m.testBit k<;>simp
theorem maskN_bit (ord:List Nat) (k:Nat):(maskN ord).testBit k=ord.contains k:=by
 unfold maskN;rw[foldl_bit];simp
def nameB (ord:List Nat) (S:Int→List Int):List UInt8:=d36 (maskN ord)++keysB S (List.range 8)
theorem maskN_lt {ord:List Nat} (h:∀n∈ord,n < 64):maskN ord < 18446744073709551616:=by
 have:maskN ord < 2 ^ 64:=by
  apply Nat.lt_pow_two_of_testBit
  intro i hi;rw[maskN_bit];cases hc:ord.contains i with
  | false=>rfl
  | true=>have:=h i (by simpa using hc);omega
 simpa using this
def coversN (m p:Nat):Bool:=(p&&& (18446744073709551615 - m))==0
theorem not_bit {m:Nat} (hm:m < 18446744073709551616) (i:Nat):(18446744073709551615 - m).testBit i=(decide (i < 64)&& !m.testBit i):=by
 have:=Nat.testBit_two_pow_sub_succ (n:=64) (x:=m) (by simpa using hm) i;rw[←this]
 congr 1
 omega
theorem coversN_mask {a b:List Nat} (ha:∀n∈a,n < 64) (hb:∀n∈b,n < 64):coversN (maskN a) (maskN b)=b.all a.contains:=by
 have hm:=maskN_lt ha;rw[Bool.eq_iff_iff];unfold coversN;rw[beq_iff_eq,List.all_eq_true]
 constructor
 ·intro h x hx;have:=congrArg (fun m:Nat=>m.testBit x) h;simp only[Nat.testBit_and,Nat.zero_testBit,not_bit hm,maskN_bit] at this;have hx64:=hb x hx;have hc:b.contains x=true:=by simpa using hx
  rw[hc] at this;simp[hx64] at this
  simpa using this
 ·intro h
  apply Nat.eq_of_testBit_eq
  intro i;simp only[Nat.testBit_and,Nat.zero_testBit,not_bit hm,maskN_bit];cases hc:b.contains i with
  | false=>simp
  | true=>
   have:=h i (by simpa using hc);rw[this];simp
theorem or_bit {ord:List Nat} {n:Nat} :maskN ord||| 2 ^ n=maskN (ord++ [n]):=(maskN_snoc ord n).symm
theorem andNot_bit {ord:List Nat} {n:Nat} (hn:n < 64) (h:n∉ord) (ho:∀m∈ord,m < 64):maskN (ord++ [n])&&& (18446744073709551615 - 2 ^ n)=maskN ord:=by
 have hm:2 ^ n < 18446744073709551616:=by
  have:2 ^ n < 2 ^ 64:=Nat.pow_lt_pow_right (by decide) hn
  simpa using this
 apply Nat.eq_of_testBit_eq
 intro i;rw[Nat.testBit_and,not_bit hm,maskN_bit,maskN_bit,Nat.testBit_two_pow];by_cases hi:i=n
 ·subst hi;simp[h]
 ·have h1:(ord++ [n]).contains i=ord.contains i:=by
   rw[Bool.eq_iff_iff];simp[hi]
  rw[h1];cases hc:ord.contains i with
  | false=>simp
  | true=>
   have:=ho i (by simpa using hc);simp[this];omega
def endL (ops:List Opn):List Nat:=(List.range ops.length).filter fun n=>decide (0≤(opN ops n).e)
def waitL (ops:List Opn) (ah:Opn→Opn→Bool) (b:Nat):List Nat:=(List.range ops.length).filter fun a=>a != b&&ah (opN ops a) (opN ops b)
theorem endL_lt {ops:List Opn} :∀n∈endL ops,n < ops.length:=fun _ h=>List.mem_range.1 (List.mem_filter.1 h).1
theorem waitL_lt {ops:List Opn} {ah:Opn→Opn→Bool} {b:Nat} :∀n∈waitL ops ah b,n < ops.length:=fun _ h=>List.mem_range.1 (List.mem_filter.1 h).1
theorem over_all (ops:List Opn) (ord:List Nat):(endL ops).all ord.contains=overB ops ord:=by
 unfold endL overB;rw[List.all_filter]
 congr 1
 funext n
 by_cases h:(opN ops n).e < 0
 ·have:¬0≤(opN ops n).e:=by omega
  simp[h,this]
 ·have:0≤(opN ops n).e:=by omega
  simp[h,this]
theorem free_all (c:Sr) (ord:List Nat) (n:Nat):(!ord.contains n&&(waitL c.ops c.ah n).all ord.contains)=freeB c ord n:=by
 unfold waitL freeB;rw[List.all_filter]
 congr 2
 funext a
 cases h1:(a==n)<;>cases h2:c.ah (opN c.ops a) (opN c.ops n)<;>simp[bne,h1]
open Go.RowKit
theorem pow_lt64 {n:Nat} (h:n < 64):2 ^ n < 18446744073709551616:=by
 have:2 ^ n < 2 ^ 64:=Nat.pow_lt_pow_right (by decide) h;exact this
theorem shl_one {n:Nat} (h:n < 64):IntKind.u64.wrap ((2:Int) ^ n)=((2 ^ n:Nat):Int):=by
 have h1:=pow_lt64 h;have e:(2:Int) ^ n=((2 ^ n:Nat):Int):=(Int.natCast_pow 2 n).symm;rw[e,IntKind.wrap_u64];generalize 2 ^ n=p at h1;omega
theorem ret_int {k:IntKind} {a b:Int} (h:a=b):Ending.returned (.int k a)=.returned (.int k b):=by rw[h]
theorem ret_bool {a b:Bool} (h:a=b):Ending.returned (.bool a)=.returned (.bool b):=by rw[h]
set_option maxHeartbeats 400000 in
theorem bit_any (n:Nat) (w:World) (hn:n < 64):Calls Tryz.prog 83 #[.int .i64 n] w fun e w'=>e=.returned (.int .u64 (2 ^ n:Nat))∧w'=w:=by
 have h1:(0:Int)≤(n:Int):=by omega
 have h2:(n:Int)≤64:=by omega
 go_enter Tryz.func83,Tryz.ntmps83
 go_wp2;go_ret;exact⟨ret_int (shl_one hn),rfl⟩
theorem has_bits {m n:Nat} (hm:m < 18446744073709551616) (hn:n < 64):(bits .and .u64 (m:Int) ((2 ^ n:Nat):Int) != 0)=m.testBit n:=by
 rw[bits_and_u64_nat m (2 ^ n) hm (pow_lt64 hn),Bool.eq_iff_iff,bne_iff_ne];have key:m&&& 2 ^ n=0↔m.testBit n=false:=by
  constructor
  ·intro h;have:=congrArg (fun q:Nat=>q.testBit n) h
   simpa [Nat.testBit_and,Nat.testBit_two_pow] using this
  ·intro h
   apply Nat.eq_of_testBit_eq
   intro i;rw[Nat.testBit_and,Nat.testBit_two_pow,Nat.zero_testBit];by_cases e:n=i
   ·subst e;rw[h];rfl
   ·simp[e]
 constructor
 ·intro h;cases hb:m.testBit n with
  | true=>rfl
  | false=>exact absurd (by rw[key.2 hb];rfl) h
 ·intro h e;have:m&&& 2 ^ n=0:=by exact_mod_cast e
  rw[key.1 this] at h;cases h
set_option maxHeartbeats 400000 in
theorem has_any (m n:Nat) (w:World) (hm:m < 18446744073709551616) (hn:n < 64):Calls Tryz.prog 82 #[.int .u64 m,.int .i64 n] w fun e w'=>e=.returned (.bool (m.testBit n))∧w'=w:=by
 have HB:=hideIt (has_bits hm hn);obtain⟨p,hp⟩:∃p:Nat,p=2 ^ n:=⟨_,rfl⟩;rw[←hp] at HB;have HC:Hid (Calls Tryz.prog 83 #[.int .i64 n] w fun e w'=>e=.returned (.int .u64 (p:Nat))∧w'=w):=by rw[hp];exact bit_any n w hn
 clear hp;go_enter Tryz.func82,Tryz.ntmps82
 go_wp2_with (go_at_call 83;refine HC.out.mono ?_;rintro e w' ⟨rfl,rfl⟩)
 go_ret;exact⟨ret_bool HB.out,rfl⟩
theorem covers_bits {m p:Nat} (hm:m < 18446744073709551616) (hp:p < 18446744073709551616):(bits .andNot .u64 (p:Int) (m:Int)==0)=coversN m p:=by
 rw[u64_andNot_nat p m hp hm];unfold coversN;rw[Bool.eq_iff_iff,beq_iff_eq,beq_iff_eq];exact⟨fun h=>by exact_mod_cast h,fun h=>by exact_mod_cast h⟩
set_option maxHeartbeats 400000 in
theorem covers_any (m p:Nat) (w:World) (hm:m < 18446744073709551616) (hp:p < 18446744073709551616):Calls Tryz.prog 84 #[.int .u64 m,.int .u64 p] w fun e w'=>e=.returned (.bool (coversN m p))∧w'=w:=by
 have HB:=hideIt (covers_bits hm hp);clear hm hp;go_enter Tryz.func84,Tryz.ntmps84
 go_wp2;go_ret;exact⟨ret_bool HB.out,rfl⟩
open Go.RowKit
def OpsIn (w:World) (v:Value) (l:List Opn):Prop:=
 ∃a cap,v=.slice a l.length cap∧l.length≤cap∧l.length≤maxLen∧(l= []∨∃b off,a=some ⟨b,off,none⟩∧b < w.heap.size∧OpsAt w b off l)
theorem OpsIn.below {w w':World} {v:Value} {l:List Opn} (h:OpsIn w v l) (hb:Below w.heap.size w w'):OpsIn w' v l:=by
 obtain⟨a,cap,rfl,hc,hm,h⟩:=h;refine⟨a,cap,rfl,hc,hm,?_⟩;rcases h with h | ⟨b,off,rfl,hlt,h⟩
 ·exact .inl h
 ·exact .inr ⟨b,off,rfl,Nat.lt_of_lt_of_le hlt hb.size,h.below hlt hb⟩
def objB (o:Int):Bool:=decide (1≤o)&&decide (o≤6)
set_option maxHeartbeats 400000 in
theorem isObject_any (o:Int) (w:World):Calls Tryz.prog 34 #[.int .i64 o] w fun e w'=>e=.returned (.bool (objB o))∧w'=w:=by
 go_enter Tryz.func34,Tryz.ntmps34
 go_wp2;all_goals (go_ret;exact⟨ret_bool (by simp_all [objB]<;>omega),rfl⟩)
set_option maxHeartbeats 400000 in
theorem clo30 (x:Opn) (o:Int) (blk:Nat) (w:World) (hK:KnownAt w) (hy:w.cell? ⟨blk,0,none⟩=some (.int .i64 o)):
  Calls Tryz.prog 80 #[x.agg,.pointer (some ⟨blk,0,none⟩)] w fun e w'=>e=.returned (.bool (!knowsB o x.d))∧Below w.heap.size w w':=by
 have hlt:blk < w.heap.size:=World.block_lt_of_cell? w _ hy;have HK:Hid (∀W,Below w.heap.size w W→KnownAt W):=fun W hb=>hK.below (World.block_lt_of_cell? w ⟨0,0*13+0,none⟩ (hK 0 0 (by decide) (by decide))) hb
 clear hK;unfold Opn.agg;go_enter Tryz.func80,Tryz.ntmps80
 go_wp2_with (go_at_call 81;refine(knows_any o x.d _ (HK.out _ (belA (Below.refl _ _) _))).mono ?_;rintro e w' ⟨rfl,rfl⟩)
 go_ret;exact⟨rfl,belA (Below.refl _ _) _⟩
set_option maxHeartbeats 1000000 in
theorem index30 (l:List Opn) (o:Int) (b off cap blk:Nat) (w:World) (hlen:l.length≤60) (hl:OpsAt w b off l) (hb:b < w.heap.size) (hK:KnownAt w) (hy:w.cell? ⟨blk,0,none⟩=some (.int .i64 o)):
  Calls Tryz.prog 139 #[.slice (some ⟨b,off,none⟩) l.length cap,.func (.func 80) #[] #[.pointer (some ⟨blk,0,none⟩)]] w fun e w'=>∃i:Int,e=.returned (.int .i64 i)∧decide (0≤i)=l.any (fun x=> !knowsB o x.d)∧Below w.heap.size w w':=by
 have hlt:blk < w.heap.size:=World.block_lt_of_cell? w _ hy;have HL:Hid (OpsAt w b off l):=hl;have HC:Hid (∀W x,Below w.heap.size w W→Calls Tryz.prog 80 #[Opn.agg x,.pointer (some ⟨blk,0,none⟩)] W fun e w'=>e=.returned (.bool (!knowsB o x.d))∧Below W.heap.size W w'):=fun W x hW=>
  clo30 x o blk W (hK.below (World.block_lt_of_cell? w ⟨0,0*13+0,none⟩ (hK 0 0 (by decide) (by decide))) hW) ((hW.cell (p:=⟨blk,0,none⟩) hlt).trans hy)
 clear hl hy hK;go_enter Tryz.func139,Tryz.ntmps139
 go_wp2
 go_loopw [8] (fun i wr=>∃k:Nat,k≤l.length∧i=.int .i64 k∧(l.take k).any (fun x=> !knowsB o x.d)=false∧Below w.heap.size w wr) (fun i _=>l.length - (intOf i).toNat)
 case atStart=>exact⟨0,Nat.zero_le _,rfl,rfl,Below.refl _ _⟩
 case round=>
  obtain⟨k,hk,rfl,ha,hnx⟩:=hrel;have HA:Hid ((l.take k).any (fun x=> !knowsB o x.d)=false):=ha;clear ha;by_cases hkl:k < l.length
  ·obtain⟨c0,c1,c2,c3,c4,c5,c6,c7⟩:=(HL.out k hkl).below hb hnx;go_wp2_with fail
   refine(HC.out wr l[k] hnx).mono ?_;cases hs: !knowsB o l[k].d
   ·rintro e w1 ⟨rfl,hb1⟩;have R1:Hid ((l.take (k+1)).any (fun x=> !knowsB o x.d)=false):=any_take_succ l _ k hkl HA.out hs;have R2:Hid (Below w.heap.size w w1):=belJ hnx hb1;clear hs;go_wp2
    go_roundw
    case rel=>exact⟨k+1,by omega,by go_num,R1.out,R2.out⟩
    case measure=>simp[intOf];omega
   ·rintro e w1 ⟨rfl,hb1⟩;have R1:Hid (l.any (fun x=> !knowsB o x.d)=true):=any_of l _ k hkl hs;have R2:Hid (Below w.heap.size w w1):=belJ hnx hb1;clear hs;go_wp2;go_ret;exact⟨_,rfl,by rw[R1.out];simp,R2.out⟩
  ·have R1:Hid (l.any (fun x=> !knowsB o x.d)=false):=by
    have h:=HA.out;rw[List.take_of_length_le (by omega)] at h;exact h
   go_wp2;go_ret;exact⟨_,rfl,by rw[R1.out];rfl,hnx⟩
set_option maxHeartbeats 400000 in
theorem index_none (a:Option Addr) (cap:Nat) (f:Value) (w:World):
  Calls Tryz.prog 139 #[.slice a 0 cap,f] w fun e w'=>e=.returned (.int .i64 (-1))∧w'=w:=by
 go_enter Tryz.func139,Tryz.ntmps139
 go_wp2;refine wp_loop_rounds 1 ?_;rw[rounds_succ];go_wp2;go_ret;exact⟨rfl,rfl⟩
set_option maxHeartbeats 400000 in
theorem contains30 (l:List Opn) (o:Int) (v:Value) (blk:Nat) (w:World) (hlen:l.length≤60) (hl:OpsIn w v l) (hK:KnownAt w) (hy:w.cell? ⟨blk,0,none⟩=some (.int .i64 o)):
  Calls Tryz.prog 79 #[v,.func (.func 80) #[] #[.pointer (some ⟨blk,0,none⟩)]] w fun e w'=>e=.returned (.bool (l.any (fun x=> !knowsB o x.d)))∧Below w.heap.size w w':=by
 have HC:Hid (Calls Tryz.prog 139 #[v,.func (.func 80) #[] #[.pointer (some ⟨blk,0,none⟩)]] w fun e w'=>∃i:Int,e=.returned (.int .i64 i)∧decide (0≤i)=l.any (fun x=> !knowsB o x.d)∧Below w.heap.size w w'):=by
  obtain⟨a,cap,rfl,hc,hm,h⟩:=hl;rcases h with rfl | ⟨b,off,rfl,hlt,h⟩
  ·exact(index_none a cap _ w).mono fun e w' ⟨he,hw⟩=>⟨-1,he,rfl,by rw[hw];exact Below.refl _ _⟩
  ·exact index30 l o b off cap blk w hlen h hlt hK hy
 clear hl hK hy;go_enter Tryz.func79,Tryz.ntmps79
 go_wp2_with fail
 refine HC.out.mono ?_;rintro e w1 ⟨i,rfl,hi,hb1⟩;have HI:Hid (decide (0≤i)=l.any (fun x=> !knowsB o x.d)):=hi;clear hi;go_wp2;all_goals
  go_ret;refine⟨?_,hb1⟩;rw[←HI.out]
  simp_all
theorem checkOps_in (l:List Opn) (v:Value) (w:World) (hlen:l.length≤60) (hl:OpsIn w v l):
  Calls Tryz.prog 78 #[v] w fun e w'=>∃n,e=.returned (toldV n)∧Told l n∧Below w.heap.size w w':=by
 obtain⟨a,cap,rfl,hc,hm,h⟩:=hl;rcases h with rfl | ⟨b,off,rfl,hlt,h⟩
 ·exact(checkOps_none a cap w).mono fun e w' ⟨he,hw⟩=>⟨0,he,told0 _ (by simp) (fun j hj=>by simp at hj),by rw[hw];exact Below.refl _ _⟩
 ·exact checkOps_any l b off cap w hlen hc h hlt
def CkTold (o:Int) (l:List Opn) (n:Int):Prop:=
 (n≠0∧Told l n)∨(Told l 0∧l.any (fun x=> !knowsB o x.d)=true∧n=1)∨(Told l 0∧l.any (fun x=> !knowsB o x.d)=false∧n=0)
theorem ckTold_one {o:Int} {l:List Opn} {n m:Int} (h1:CkTold o l n) (h2:CkTold o l m):n=m:=by
 rcases h1 with ⟨a,h⟩ | ⟨h,g,rfl⟩ | ⟨h,g,rfl⟩
 ·rcases h2 with ⟨_,k⟩ | ⟨k,_,rfl⟩ | ⟨k,_,rfl⟩
  ·exact told_one h k
  ·exact absurd (told_one h k) a
  ·exact absurd (told_one h k) a
 ·rcases h2 with ⟨b,k⟩ | ⟨_,_,rfl⟩ | ⟨_,g',rfl⟩
  ·exact absurd (told_one k h) b
  ·rfl
  ·rw[g] at g';cases g'
 ·rcases h2 with ⟨b,k⟩ | ⟨_,g',rfl⟩ | ⟨_,_,rfl⟩
  ·exact absurd (told_one k h) b
  ·rw[g] at g';cases g'
  ·rfl
set_option maxHeartbeats 1000000 in
theorem linCheck_any (o:Int) (l:List Opn) (v:Value) (w:World) (hlen:l.length≤60) (hl:OpsIn w v l) (hK:KnownAt w):
  Calls Tryz.prog 35 #[.int .i64 o,v] w fun e w'=>∃n,e=.returned (toldV n)∧CkTold o l n∧Below w.heap.size w w':=by
 have hpos:0 < w.heap.size:=World.block_lt_of_cell? w ⟨0,0*13+0,none⟩ (hK 0 0 (by decide) (by decide));have hb1:Below w.heap.size w (w.alloc (.cells #[.int .i64 o] 3)):=belA (Below.refl _ _) _;have HC:Hid (Calls Tryz.prog 78 #[v] (w.alloc (.cells #[.int .i64 o] 3)) fun e w'=>∃n,e=.returned (toldV n)∧Told l n∧Below (w.alloc (.cells #[.int .i64 o] 3)).heap.size (w.alloc (.cells #[.int .i64 o] 3)) w'):=checkOps_in l v _ hlen (hl.below hb1);have HD:Hid (∀w1,Below (w.alloc (.cells #[.int .i64 o] 3)).heap.size (w.alloc (.cells #[.int .i64 o] 3)) w1→Calls Tryz.prog 79 #[v,.func (.func 80) #[] #[.pointer (some ⟨w.heap.size,0,none⟩)]] w1 fun e w'=>e=.returned (.bool (l.any (fun x=> !knowsB o x.d)))∧Below w1.heap.size w1 w'):=fun w1 hb=>by
  have hb2:=belJ hb1 hb;refine contains30 l o v w.heap.size w1 hlen (hl.below hb2) (hK.below hpos hb2) ?_;rw[hb.cell (p:=⟨w.heap.size,0,none⟩) (by simp)];simp
 clear hl hK;have HB1:=hideIt hb1;clear hb1;obtain⟨q,hq⟩:∃q,l.any (fun x=> !knowsB o x.d)=q:=⟨_,rfl⟩;rw[hq] at HD;go_enter Tryz.func35,Tryz.ntmps35
 go_wp2_with fail
 refine HC.out.mono ?_;rintro e w1 ⟨n,rfl,ht,hb⟩;have HT:=hideIt ht;have HB:=hideIt hb;have HQ:=hideIt hq;clear ht hb hq;by_cases hz:n=0
 ·subst hz;rw[toldV_zero];cases q
  ·go_wp2_with (go_at_call 79;refine(HD.out _ HB.out).mono ?_;rintro e w2 ⟨rfl,hb2⟩;have HB2:=hideIt hb2;clear hb2)
   go_ret;exact⟨0,by rfl,.inr (.inr ⟨HT.out,HQ.out,rfl⟩),belJ (belJ HB1.out HB.out) HB2.out⟩
  ·go_wp2_with (go_at_call 79;refine(HD.out _ HB.out).mono ?_;rintro e w2 ⟨rfl,hb2⟩;have HB2:=hideIt hb2;clear hb2)
   go_ret;exact⟨1,by rfl,.inr (.inl ⟨HT.out,HQ.out,rfl⟩),belJ (belJ HB1.out HB.out) HB2.out⟩
 ·rw[toldV_some hz];go_wp2;go_ret;exact⟨n,by rw[toldV_some hz];rfl,.inl ⟨hz,HT.out⟩,belJ HB1.out HB.out⟩
open Go.RowKit
def endK (ops:List Opn) (k:Nat):List Nat:=(List.range k).filter fun n=>decide (0≤(opN ops n).e)
theorem endK_yes {ops:List Opn} {k:Nat} (h:0≤(opN ops k).e):endK ops (k+1)=endK ops k++ [k]:=by simp[endK,List.range_succ,h]
theorem endK_no {ops:List Opn} {k:Nat} (h:¬0≤(opN ops k).e):endK ops (k+1)=endK ops k:=by
 unfold endK;rw[List.range_succ,List.filter_append];simp;omega
theorem endK_lt {ops:List Opn} {k m:Nat} (hk:k≤m):∀n∈endK ops k,n < m:=fun n h=>by
 have:=List.mem_range.1 (List.mem_filter.1 h).1;omega
theorem or_bits {m n:Nat} (hm:m < 18446744073709551616) (hn:n < 64):bits .or .u64 (m:Int) ((2 ^ n:Nat):Int)=((m||| 2 ^ n:Nat):Int):=bits_or_u64_nat m (2 ^ n) hm (pow_lt64 hn)
theorem bit_call (n:Nat) (hn:n < 64):∃p:Nat,p=2 ^ n∧∀w,Calls Tryz.prog 83 #[.int .i64 n] w fun e w'=>e=.returned (.int .u64 (p:Nat))∧w'=w:=⟨2 ^ n,rfl,fun w=>bit_any n w hn⟩
set_option maxRecDepth 100000 in
set_option maxHeartbeats 1000000 in
theorem ended_any (ops:List Opn) (v:Value) (w:World) (hlen:ops.length≤60) (hl:OpsIn w v ops):
  Calls Tryz.prog 85 #[v] w fun e w'=>e=.returned (.int .u64 (maskN (endL ops)))∧Below w.heap.size w w':=by
 obtain⟨a,cap,rfl,hc,hm,hops⟩:=hl;have HOP:Hid (∀n,(hn:n < ops.length)→∃b off,a=some ⟨b,off,none⟩∧∀wr,Below w.heap.size w wr→OpAt wr b (off+n*8) ops[n]):=fun n hn=>by
  obtain h | ⟨b,off,e,hlt,hc⟩:=hops
  ·subst h;simp at hn
  ·exact⟨b,off,e,fun wr hW=>(hc n hn).below hlt hW⟩
 clear hops;go_enter Tryz.func85,Tryz.ntmps85
 go_wp2
 go_loopw [3,8] (fun s i wr=>∃k:Nat,k≤ops.length∧i=.int .i64 k∧s=.int .u64 (maskN (endK ops k))∧Below w.heap.size w wr) (fun _ i _=>ops.length - (intOf i).toNat)
 case atStart=>exact⟨0,by omega,rfl,rfl,Below.refl _ _⟩
 case round=>
  obtain⟨k,hk,rfl,rfl,hb⟩:=hrel;have HB:=hideIt hb;clear hb;by_cases hkl:k < ops.length
  ·obtain⟨b,offo,rfl,hop⟩:=HOP.out k hkl;obtain⟨d0,d1,d2,d3,d4,d5,d6,d7⟩:=hop _ HB.out;clear hop;have k1:(0:Int)≤(k:Int):=by omega
   have k2:(k:Int) < (ops.length:Int):=by omega
   have hml:maskN (endK ops k) < 18446744073709551616:=maskN_lt (endK_lt (by omega));have HE:=hideIt (opN_at hkl);by_cases he:0≤ops[k].e
   ·have he':decide (0≤ops[k].e)=true:=by simpa using he
    obtain⟨p,hp,hcall⟩:=bit_call k (by omega);have R1:Hid (bits .or .u64 (maskN (endK ops k):Int) (p:Int)=(maskN (endK ops (k+1)):Int)):=hideIt (by
     rw[hp,or_bits hml (by omega),endK_yes (by rw[HE.out];exact he),←or_bit])
    have HC:=hideIt hcall;have HB2:=hideIt (belA HB.out ops[k].obj);unfold Opn.obj at HB2;clear hp hcall hml;go_wp2_with (go_at_call 83;refine(HC.out _).mono ?_;rintro e w' ⟨rfl,rfl⟩)
    go_roundw
    case rel=>exact⟨k+1,by omega,by go_num,by rw[R1.out],HB2.out⟩
    case measure=>simp[intOf];omega
   ·have he':decide (0≤ops[k].e)=false:=by simpa using he
    have R1:Hid (endK ops (k+1)=endK ops k):=hideIt (endK_no (by rw[HE.out];exact he));have HB2:=hideIt (belA HB.out ops[k].obj);unfold Opn.obj at HB2;clear hml;go_wp2
    go_roundw
    case rel=>exact⟨k+1,by omega,by go_num,by rw[R1.out],HB2.out⟩
    case measure=>simp[intOf];omega
  ·have HE:Hid (endK ops k=endL ops):=by
    have:k=ops.length:=by omega
    subst this;rfl
   go_wp2;go_ret;exact⟨ret_int (by rw[HE.out]),HB.out⟩
theorem take_snoc {α:Type} (l:List α) (k:Nat) (h:k < l.length):l.take (k+1)=l.take k++ [l[k]]:=List.take_succ_eq_append_getElem h
end Go.Proofs.YtjpklmighoondaaGreatDoor
