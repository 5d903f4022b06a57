/-
  What opFault and CheckOps of package event do.
  What CheckOps of package event does: it tells the first fault.
  CheckOps of no ops.
  Numbers in base 36, and names made of them, each number with an end of its own: in plain Lean; no two are alike.
  How a state of the search is named, in plain Lean: numbers in base 36, each with an end of its own; no two states have one name.
  Some ops as the bits of a number, in plain Lean.
  Package linear's bits, walked.
-/
import Derived.Test.YtjpklmighoondaaGreatDoorPlainLZ
import Derived.Test.YtjpklmighoondaaGreatDoorRowSZ
import Derived.Test.YtjpklmighoondaaGreatDoorAbUZ
import Derived.Deep.RegionWith
import Derived.WalkKit
import Derived.Test.YtjpklmighoondaaGreatDoorProg
import Derived.Laws.BitsAllLaws
import Derived.Laws.Bits64b
import Derived.Test.YtjpklmighoondaaGreatDoorCallWZ
import Derived.Maps.OwnSet
import Derived.Carry
namespace Go.Proofs.YtjpklmighoondaaGreatDoor
open Go.RowKit
theorem opFaultN_range (l:List Opn) (x:Opn) (h:rangeB x=false):opFaultN l x=2:=by simp[opFaultN,h]
theorem opFaultN_kind (l:List Opn) (x:Opn) (h:rangeB x=true) (h2:kindB x.d=false):opFaultN l x=1:=by simp[opFaultN,h,h2]
theorem opFaultN_order (l:List Opn) (x:Opn) (h:rangeB x=true) (h2:kindB x.d=true) (h3:orderB l x=false):opFaultN l x=10:=by simp[opFaultN,h,h2,h3]
theorem opFaultN_twice (l:List Opn) (x:Opn) (h:rangeB x=true) (h2:kindB x.d=true) (h3:orderB l x=true) (h4:l.any (fun y=>shareB y x)=true):opFaultN l x=9:=by unfold opFaultN;rw[h,h2,h3,h4];rfl
theorem opFaultN_rest (l:List Opn) (x:Opn) (h:rangeB x=true) (h2:kindB x.d=true) (h3:orderB l x=true) (h4:l.any (fun y=>shareB y x)=false):opFaultN l x=if l.any (fun y=>clashB y x) then 6 else 0:=by unfold opFaultN;rw[h,h2,h3,h4];rfl
theorem opAt_new (w:World) (x:Opn):OpAt (w.alloc (.cells #[.int .i64 x.p,.int .i64 x.k,.int .i64 x.d,.int .i64 x.a,.int .i64 x.b,.int .i64 x.r,.int .i64 x.c,.int .i64 x.e] 157)) w.heap.size 0 x:=
 ⟨by simp,by simp,by simp,by simp,by simp,by simp,by simp,by simp⟩
set_option maxHeartbeats 1000000 in
theorem opFault_range (x:Opn) (v:Value) (w:World) (h:rangeB x=false):
  Calls Tryz.prog 138 #[v,x.agg] w fun e w'=>e=.returned (.int .i64 2)∧Below w.heap.size w w':=by
 unfold Opn.agg;cases h1:inB x.p x.k x.a x.b x.r
 ·go_enter Tryz.func138,Tryz.ntmps138
  go_wp2_with (go_at_call 119;refine(inBounds_any _ _ _ _ _ _).mono ?_;rintro e w' ⟨rfl,rfl⟩)
  go_ret;exact⟨rfl,belA (Below.refl _ _) _⟩
 ·cases h2:numB x.c
  ·go_enter Tryz.func138,Tryz.ntmps138
   go_wp2_with (first | (go_at_call 119;refine(inBounds_any _ _ _ _ _ _).mono ?_;rintro e w' ⟨rfl,rfl⟩) | (go_at_call 171;refine(isNumber_any _ _).mono ?_;rintro e w' ⟨rfl,rfl⟩))
   go_ret;exact⟨rfl,belA (Below.refl _ _) _⟩
  ·have h3:numB x.e=false:=by simpa [rangeB,h1,h2] using h
   clear h;go_enter Tryz.func138,Tryz.ntmps138
   go_wp2_with (first | (go_at_call 119;refine(inBounds_any _ _ _ _ _ _).mono ?_;rintro e w' ⟨rfl,rfl⟩) | (go_at_call 171;refine(isNumber_any _ _).mono ?_;rintro e w' ⟨rfl,rfl⟩))
   go_ret;exact⟨rfl,belA (Below.refl _ _) _⟩
set_option maxHeartbeats 2000000 in
theorem opFault_any (l:List Opn) (x:Opn) (b off cap:Nat) (w:World) (hlen:l.length≤60) (hl:OpsAt w b off l) (hb:b < w.heap.size):
  Calls Tryz.prog 138 #[.slice (some ⟨b,off,none⟩) l.length cap,x.agg] w fun e w'=>e=.returned (.int .i64 (opFaultN l x))∧Below w.heap.size w w':=by
 cases hr:rangeB x
 ·rw[opFaultN_range l x hr];exact opFault_range x _ w hr
 ·have hr':=hr;simp only[rangeB,Bool.and_eq_true] at hr';obtain⟨⟨h1,h2⟩,h3⟩:=hr';have HN:=opAt_new w x;have hbel:Below w.heap.size w (w.alloc (.cells #[.int .i64 x.p,.int .i64 x.k,.int .i64 x.d,.int .i64 x.a,.int .i64 x.b,.int .i64 x.r,.int .i64 x.c,.int .i64 x.e] 157)):=belA (Below.refl _ _) _;have hl1:=hl.below hb hbel;have hb1:b < (w.alloc (.cells #[.int .i64 x.p,.int .i64 x.k,.int .i64 x.d,.int .i64 x.a,.int .i64 x.b,.int .i64 x.r,.int .i64 x.c,.int .i64 x.e] 157)).heap.size:=by simp;omega
  have hlt:w.heap.size < (w.alloc (.cells #[.int .i64 x.p,.int .i64 x.k,.int .i64 x.d,.int .i64 x.a,.int .i64 x.b,.int .i64 x.r,.int .i64 x.c,.int .i64 x.e] 157)).heap.size:=by simp
  cases hk:kindB x.d
  ·rw[opFaultN_kind l x hr hk];unfold Opn.agg;clear HN hl1 hb1 hlt hbel;go_enter Tryz.func138,Tryz.ntmps138
   go_wp2_with (first | (go_at_call 119;refine(inBounds_any _ _ _ _ _ _).mono ?_;rintro e w' ⟨rfl,rfl⟩) | (go_at_call 171;refine(isNumber_any _ _).mono ?_;rintro e w' ⟨rfl,rfl⟩) | (go_at_call 120;refine(isKind_any _ _).mono ?_;rintro e w' ⟨rfl,rfl⟩))
   go_ret;exact⟨rfl,belA (Below.refl _ _) _⟩
  ·cases ho:orderB l x
   ·rw[opFaultN_order l x hr hk ho];have HI:=inOrder_any l x b off cap _ hlen hl1 hb1;rw[ho] at HI;have HI:=hideIt HI;unfold Opn.agg;clear HN hl1 hb1 hlt hbel;go_enter Tryz.func138,Tryz.ntmps138
    go_wp2_with (first | (go_at_call 119;refine(inBounds_any _ _ _ _ _ _).mono ?_;rintro e w' ⟨rfl,rfl⟩) | (go_at_call 171;refine(isNumber_any _ _).mono ?_;rintro e w' ⟨rfl,rfl⟩) | (go_at_call 120;refine(isKind_any _ _).mono ?_;rintro e w' ⟨rfl,rfl⟩))
    refine HI.out.mono ?_;rintro e w1 ⟨rfl,hb2⟩;go_wp2;go_ret;exact⟨rfl,belJ (belA (Below.refl _ _) _) hb2⟩
   ·have HI:=inOrder_any l x b off cap _ hlen hl1 hb1;rw[ho] at HI;have HI:=hideIt HI;have HN:=hideIt HN;have HL:=hideIt hl1;cases ht:l.any (fun y=>shareB y x)
    ·obtain⟨n,hc,HV⟩:∃c:Bool,l.any (fun y=>clashB y x)=c∧Hid (opFaultN l x=if c then 6 else 0):=⟨_,rfl,opFaultN_rest l x hr hk ho ht⟩;rw[HV.out];have HT:Hid (l.any (fun y=>shareB y x)=false):=ht;have HC:Hid (l.any (fun y=>clashB y x)=n):=hc;clear ht hl1 hl ho hc;unfold Opn.agg;go_enter Tryz.func138,Tryz.ntmps138
     go_wp2_with (first | (go_at_call 119;refine(inBounds_any _ _ _ _ _ _).mono ?_;rintro e w' ⟨rfl,rfl⟩) | (go_at_call 171;refine(isNumber_any _ _).mono ?_;rintro e w' ⟨rfl,rfl⟩) | (go_at_call 120;refine(isKind_any _ _).mono ?_;rintro e w' ⟨rfl,rfl⟩))
     refine HI.out.mono ?_;rintro e w1 ⟨rfl,hb2⟩;have hb2':=hb2.size;go_wp2_with fail
     refine(contains47 l x b off cap w.heap.size w1 hlen (HL.out.below hb1 hb2) (by omega) (HN.out.below hlt hb2)).mono ?_;rw[HT.out];rintro e w2 ⟨rfl,hb3⟩;have hb3':=hb3.size;go_wp2_with fail
     refine(contains49 l x b off cap w.heap.size w2 hlen ((HL.out.below hb1 hb2).below (by omega) hb3) (by omega) ((HN.out.below hlt hb2).below (by omega) hb3)).mono ?_;rw[HC.out];rintro e w3 ⟨rfl,hb4⟩;go_wp2;all_goals
      go_ret;refine⟨?_,belJ (belJ (belJ hbel hb2) hb3) hb4⟩
      simp_all
    ·rw[opFaultN_twice l x hr hk ho ht];have HT:Hid (l.any (fun y=>shareB y x)=true):=ht;clear ht hl1 hl ho;unfold Opn.agg;go_enter Tryz.func138,Tryz.ntmps138
     go_wp2_with (first | (go_at_call 119;refine(inBounds_any _ _ _ _ _ _).mono ?_;rintro e w' ⟨rfl,rfl⟩) | (go_at_call 171;refine(isNumber_any _ _).mono ?_;rintro e w' ⟨rfl,rfl⟩) | (go_at_call 120;refine(isKind_any _ _).mono ?_;rintro e w' ⟨rfl,rfl⟩))
     refine HI.out.mono ?_;rintro e w1 ⟨rfl,hb2⟩;have hb2':=hb2.size;go_wp2_with fail
     refine(contains47 l x b off cap w.heap.size w1 hlen (HL.out.below hb1 hb2) (by omega) (HN.out.below hlt hb2)).mono ?_;rw[HT.out];rintro e w2 ⟨rfl,hb3⟩;go_wp2;go_ret;exact⟨rfl,belJ (belJ hbel hb2) hb3⟩
open Go.RowKit
theorem opFault_at (l:List Opn) (k:Nat) (x:Opn) (b off cap:Nat) (w:World) (hk:k≤l.length) (hlen:l.length≤60) (hl:OpsAt w b off l) (hb:b < w.heap.size):
  Calls Tryz.prog 138 #[.slice (some ⟨b,off,none⟩) k cap,x.agg] w fun e w'=>e=.returned (.int .i64 (opFaultN (l.take k) x))∧Below w.heap.size w w':=by
 have h:=opFault_any (l.take k) x b off cap w (by simp;omega) (hl.take k) hb
 rwa [List.length_take,Nat.min_eq_left hk] at h
theorem toldV_some {n:Int} (h:n≠0):toldV n=.iface 55 (.int .i64 n):=by simp[toldV,h]
theorem told4 (l:List Opn) (h:40 < l.length):Told l 4:=.inl ⟨h,rfl⟩
theorem told0 (l:List Opn) (h:l.length≤40) (h2:∀j,(h:j < l.length)→opFaultN (l.take j) l[j]=0):Told l 0:=.inr (.inl ⟨h,h2,rfl⟩)
theorem toldAt (l:List Opn) (h:l.length≤40) (k:Nat) (hk:k < l.length) (h2:∀j,(hj:j < k)→opFaultN (l.take j) (l[j]'(Nat.lt_trans hj hk))=0) (h3:opFaultN (l.take k) l[k]≠0):Told l (opFaultN (l.take k) l[k]):=.inr (.inr ⟨h,k,hk,h2,h3,rfl⟩)
def FineTo (l:List Opn) (k:Nat):Prop:=∀j,(h:j < l.length)→j < k→opFaultN (l.take j) l[j]=0
theorem fineTo_zero (l:List Opn):FineTo l 0:=fun j _ h=>by omega
theorem FineTo.succ {l:List Opn} {k:Nat} (h:FineTo l k) (hk:k < l.length) (h0:opFaultN (l.take k) l[k]=0):FineTo l (k+1):=fun j hj hjk=>by
 by_cases e:j=k
 ·subst e;exact h0
 ·exact h j hj (by omega)
set_option maxHeartbeats 1000000 in
theorem checkOps_any (l:List Opn) (b off cap:Nat) (w:World) (hlen:l.length≤60) (hcap:l.length≤cap) (hl:OpsAt w b off l) (hb:b < w.heap.size):
  Calls Tryz.prog 78 #[.slice (some ⟨b,off,none⟩) l.length cap] w fun e w'=>∃n,e=.returned (toldV n)∧Told l n∧Below w.heap.size w w':=by
 have HL:Hid (OpsAt w b off l):=hl;clear hl;by_cases h40:40 < l.length
 ·have HT:Hid (Told l 4):=told4 l h40;go_enter Tryz.func78,Tryz.ntmps78
  go_wp2;go_ret;exact⟨4,rfl,HT.out,Below.refl _ _⟩
 ·go_enter Tryz.func78,Tryz.ntmps78
  go_wp2
  go_loopw [12] (fun i wr=>∃k:Nat,k≤l.length∧i=.int .i64 k∧FineTo l k∧Below w.heap.size w wr) (fun i _=>l.length - (intOf i).toNat)
  case atStart=>exact⟨0,Nat.zero_le _,rfl,fineTo_zero l,Below.refl _ _⟩
  case round=>
   obtain⟨k,hk,rfl,hf,hnx⟩:=hrel;have HF:Hid (FineTo l k):=hf;clear hf;by_cases hkl:k < l.length
   ·obtain⟨c0,c1,c2,c3,c4,c5,c6,c7⟩:=(HL.out k hkl).below hb hnx;obtain⟨n,HN⟩:∃n,Hid (opFaultN (l.take k) l[k]=n):=⟨_,hideIt rfl⟩;have HS:Hid (∀W,Below w.heap.size w W→Calls Tryz.prog 138 #[.slice (some ⟨b,off,none⟩) k cap,l[k].agg] W fun e w'=>e=.returned (.int .i64 n)∧Below W.heap.size W w'):=fun W hW=>by
     have h:=opFault_at l k l[k] b off cap W hk hlen (HL.out.below hb hW) (Nat.lt_of_lt_of_le hb hW.size)
     rwa [HN.out] at h
    by_cases hz:n=0
    ·have hz':(n != 0)=false:=by simp[hz]
     have R1:Hid (FineTo l (k+1)):=HF.out.succ hkl (HN.out.trans hz);clear hz;go_wp2_with fail
     go_region_with (go_at_call 138;refine(HS.out _ ?_).mono ?_;(repeat (first | exact hnx | refine Below.drew ?_ | refine belA ?_ _));rintro e w1 ⟨rfl,hb1⟩)
     all_goals
      have R2:Hid (Below w.heap.size w w1):=belJ (by repeat (first | exact hnx | refine Below.drew ?_ | refine belA ?_ _)) hb1;clear hb1;go_wp2
      go_roundw
      case rel=>exact⟨k+1,by omega,by go_num,R1.out,R2.out⟩
      case measure=>simp[intOf];omega
    ·have hz':(n != 0)=true:=by simp[hz]
     have R1:Hid (Told l n):=by
      have h:=toldAt l (by omega) k hkl (fun j hj=>HF.out j (by omega) hj) (by rw[HN.out];exact hz);rw[HN.out] at h;exact h
     have R3:Hid (toldV n=.iface 55 (.int .i64 n)):=toldV_some hz;clear hz;go_wp2_with fail
     go_region_with (go_at_call 138;refine(HS.out _ ?_).mono ?_;(repeat (first | exact hnx | refine Below.drew ?_ | refine belA ?_ _));rintro e w1 ⟨rfl,hb1⟩)
     all_goals
      have R2:Hid (Below w.heap.size w w1):=belJ (by repeat (first | exact hnx | refine Below.drew ?_ | refine belA ?_ _)) hb1;clear hb1;go_wp2;go_ret;exact⟨n,by rw[R3.out];rfl,R1.out,R2.out⟩
   ·have R1:Hid (Told l 0):=told0 l (by omega) (fun j hj=>HF.out j hj (by omega));go_wp2;go_ret;exact⟨0,by rfl,R1.out,hnx⟩
open Go.RowKit
theorem toldV_zero:toldV 0=.nilIface:=by simp[toldV]
set_option maxHeartbeats 400000 in
theorem checkOps_none (a:Option Addr) (cap:Nat) (w:World):Calls Tryz.prog 78 #[.slice a 0 cap] w fun e w'=>e=.returned (toldV 0)∧w'=w:=by
 rw[toldV_zero];go_enter Tryz.func78,Tryz.ntmps78
 go_wp2;refine wp_loop_rounds 1 ?_;rw[rounds_succ];go_wp2;go_ret;exact⟨rfl,rfl⟩
def dig (i:Nat):UInt8:=if i < 10 then UInt8.ofNat (48+i) else UInt8.ofNat (87+i)
def undig (b:UInt8):Nat:=if b.toNat < 58 then b.toNat - 48 else b.toNat - 87
theorem dig_nat {i:Nat} (h:i < 36):(dig i).toNat=if i < 10 then 48+i else 87+i:=by
 unfold dig
 split<;>simp[UInt8.toNat_ofNat']<;>omega
theorem undig_dig {i:Nat} (h:i < 36):undig (dig i)=i:=by
 unfold undig;rw[dig_nat h];by_cases h10:i < 10
 ·simp[h10];omega
 ·simp[h10];omega
theorem dig_ne {i:Nat} (h:i < 36) (b:UInt8) (hb:b.toNat < 48):dig i≠b:=by
 intro e;have:=dig_nat h;rw[e] at this
 split at this<;>omega
theorem dig_ne2 {i:Nat} (h:i < 36):dig i≠59:=by
 intro e;have:=dig_nat h;rw[e] at this;have h59:(59:UInt8).toNat=59:=rfl;rw[h59] at this
 split at this<;>omega
def d36 (u:Nat):List UInt8:=if _h:u < 36 then [dig u] else d36 (u / 36)++ [dig (u%36)]
decreasing_by omega
theorem d36_small {u:Nat} (h:u < 36):d36 u= [dig u]:=by unfold d36;rw[dif_pos h]
theorem d36_big {u:Nat} (h:¬u < 36):d36 u=d36 (u / 36)++ [dig (u%36)]:=by rw[d36,dif_neg h]
def val36 (l:List UInt8):Nat:=l.foldl (fun m b=>m*36+undig b) 0
theorem val_d36 (u:Nat):val36 (d36 u)=u:=by
 induction u using Nat.strongRecOn with
 | ind u ih=>
  by_cases h:u < 36
  ·rw[d36_small h];simp[val36,undig_dig h]
  ·rw[d36_big h];have:=ih (u / 36) (by omega);unfold val36 at this ⊢;rw[List.foldl_append,this];simp only[List.foldl_cons,List.foldl_nil];rw[undig_dig (by omega)];omega
theorem d36_inj {u v:Nat} (h:d36 u=d36 v):u=v:=by rw[←val_d36 u,h,val_d36]
theorem d36_ne (u:Nat) (b:UInt8) (hb:b.toNat < 48):b∉d36 u:=by
 induction u using Nat.strongRecOn with
 | ind u ih=>
  by_cases h:u < 36
  ·rw[d36_small h];simp;exact fun e=>dig_ne h b hb e.symm
  ·rw[d36_big h];simp;exact⟨ih (u / 36) (by omega),fun e=>dig_ne (by omega) b hb e.symm⟩
theorem d36_ne2 (u:Nat):(59:UInt8)∉d36 u:=by
 induction u using Nat.strongRecOn with
 | ind u ih=>
  by_cases h:u < 36
  ·rw[d36_small h];simp;exact fun e=>dig_ne2 h e.symm
  ·rw[d36_big h];simp;exact⟨ih (u / 36) (by omega),fun e=>dig_ne2 (by omega) e.symm⟩
def n36 (x:Int):List UInt8:=if x < 0 then 45::d36 (-x).toNat else d36 x.toNat
theorem n36_inj {x y:Int} (h:n36 x=n36 y):x=y:=by
 unfold n36 at h;by_cases hx:x < 0
 ·by_cases hy:y < 0
  ·rw[if_pos hx,if_pos hy] at h;have:=d36_inj (List.cons.inj h).2;omega
  ·rw[if_pos hx,if_neg hy] at h;exact absurd (by rw[←h];simp) (d36_ne y.toNat 45 (by decide))
 ·by_cases hy:y < 0
  ·rw[if_neg hx,if_pos hy] at h;exact absurd (by rw[h];simp) (d36_ne x.toNat 45 (by decide))
  ·rw[if_neg hx,if_neg hy] at h;have:=d36_inj h;omega
theorem n36_ne (x:Int):(44:UInt8)∉n36 x∧(59:UInt8)∉n36 x:=by
 unfold n36
 split
 ·have:=d36_ne (-x).toNat 44 (by decide);have:=d36_ne2 (-x).toNat;simp;constructor<;>assumption
 ·exact⟨d36_ne _ 44 (by decide),d36_ne2 _⟩
theorem cut_at {s:UInt8} :∀{a b x y:List UInt8},s∉a→s∉b→a++s::x=b++s::y→a=b∧x=y
 | [],[],x,y,_,_,h=>by simpa using h
 | [],b::bs,x,y,_,hb,h=>by
  simp only[List.nil_append,List.cons_append] at h;exact absurd (by rw[(List.cons.inj h).1];simp) hb
 | a::az,[],x,y,ha,_,h=>by
  simp only[List.nil_append,List.cons_append] at h;exact absurd (by rw[←(List.cons.inj h).1];simp) ha
 | a::az,b::bs,x,y,ha,hb,h=>by
  simp only[List.cons_append] at h;obtain⟨e1,e2⟩:=List.cons.inj h;obtain⟨e3,e4⟩:=cut_at (fun hm=>ha (List.mem_cons_of_mem _ hm)) (fun hm=>hb (List.mem_cons_of_mem _ hm)) e2;exact⟨by rw[e1,e3],e4⟩
def rowB (st:List Int):List UInt8:=st.flatMap fun x=>n36 x++ [44]
theorem rowB_cons (x:Int) (st:List Int):rowB (x::st)=n36 x++44::rowB st:=by simp[rowB]
theorem rowB_ne (st:List Int):(59:UInt8)∉rowB st:=by
 intro h;obtain⟨x,_,hx⟩:=List.mem_flatMap.1 h;rcases List.mem_append.1 hx with h | h
 ·exact(n36_ne x).2 h
 ·simp at h
theorem rowB_inj:∀{s t:List Int},rowB s=rowB t→s=t
 | [],[],_=>rfl
 | [],y::t,h=>by rw[rowB_cons] at h;simp[rowB] at h
 | x::s,[],h=>by rw[rowB_cons] at h;simp[rowB] at h
 | x::s,y::t,h=>by
  rw[rowB_cons,rowB_cons] at h;obtain⟨e1,e2⟩:=cut_at (n36_ne x).1 (n36_ne y).1 h;rw[n36_inj e1,rowB_inj e2]
def keysB (S:Int→List Int) (ks:List Nat):List UInt8:=ks.flatMap fun k:Nat=>59::rowB (S (k:Int))
theorem keysB_cons (S:Int→List Int) (k:Nat) (ks:List Nat):keysB S (k::ks)=59::(rowB (S k)++keysB S ks):=by simp[keysB]
theorem keysB_inj {S T:Int→List Int} :∀{ks:List Nat} {a b:List UInt8},(59:UInt8)∉a→(59:UInt8)∉b→a++keysB S ks=b++keysB T ks→a=b∧∀k∈ks,S k=T k
 | [],a,b,_,_,h=>by simpa [keysB] using h
 | k::ks,a,b,ha,hb,h=>by
  rw[keysB_cons,keysB_cons] at h;obtain⟨e1,e2⟩:=cut_at ha hb h;obtain⟨e3,e4⟩:=keysB_inj (rowB_ne _) (rowB_ne _) e2;exact⟨e1,fun m hm=>by
   rcases List.mem_cons.1 hm with rfl | hm
   ·exact rowB_inj e3
   ·exact e4 m hm⟩
theorem d36_length {u:Nat} :∀{k:Nat},0 < k→u < 36 ^ k→(d36 u).length≤k:=by
 intro k
 induction k generalizing u with
 | zero=>intro h;omega
 | succ k ih=>
  intro _ hu;by_cases h:u < 36
  ·rw[d36_small h];simp
  ·rw[d36_big h];have hk:0 < k:=by
    rcases Nat.eq_zero_or_pos k with rfl | h'
    ·simp at hu;omega
    ·exact h'
   have hu':u < 36*36 ^ k:=by rw[Nat.pow_succ] at hu;omega
   have:=ih hk (u:=u / 36) (by rw[Nat.div_lt_iff_lt_mul (by decide)];omega);simp;exact this
theorem d36_length64 {u:Nat} (h:u < 18446744073709551616):(d36 u).length≤13:=d36_length (by decide) (Nat.lt_of_lt_of_le h (by decide))
theorem d36_pos (u:Nat):0 < (d36 u).length:=by
 by_cases h:u < 36
 ·rw[d36_small h];simp
 ·rw[d36_big h];simp
def maskN (ord:List Nat):Nat:=ord.foldl (fun m n=>m||| 2 ^ n) 0
theorem maskN_snoc (ord:List Nat) (n:Nat):maskN (ord++ [n])=maskN ord||| 2 ^ n:=by simp[maskN]
theorem foldl_bit:∀(ord:List Nat) (m k:Nat),(ord.foldl (fun m n=>m||| 2 ^ n) m).testBit k=(m.testBit k||ord.contains k)
 | [],m,k=>by simp
 | n::r,m,k=>by
  rw[List.foldl_cons,foldl_bit r,Nat.testBit_or,Nat.testBit_two_pow,List.contains_cons];have:(n=k:Bool)=(k==n):=by
   rw[Bool.eq_iff_iff];simp;exact eq_comm
  rw[this];cases m.testBit k<;>simp
theorem maskN_bit (ord:List Nat) (k:Nat):(maskN ord).testBit k=ord.contains k:=by
 unfold maskN;rw[foldl_bit];simp
def nameB (ord:List Nat) (S:Int→List Int):List UInt8:=d36 (maskN ord)++keysB S (List.range 8)
theorem nameB_inj {ord ord':List Nat} {S S':Int→List Int} (h:nameB ord S=nameB ord' S'):(∀n,n∈ord↔n∈ord')∧∀k:Nat,k < 8→S k=S' k:=by
 obtain⟨e1,e2⟩:=keysB_inj (d36_ne2 _) (d36_ne2 _) h;have e:=d36_inj e1;refine⟨fun n=>?_,fun k hk=>e2 k (List.mem_range.2 hk)⟩;have h1:=maskN_bit ord n;have h2:=maskN_bit ord' n;rw[e,h2] at h1;have:=Bool.eq_iff_iff.1 h1
 simpa using this.symm
theorem reach_out {c:Sr} (hk:∀n,n < c.ops.length→0≤(opN c.ops n).k∧(opN c.ops n).k < 8) {ord:List Nat} {S:Int→List Int} (h:Reach c ord S):∀q:Int,¬(0≤q∧q < 8)→S q=startL c.o:=by
 induction h with
 | start=>intro q _;rfl
 | step h hn hs ih=>
  intro q hq;have:=hk _ hn;rw[setK_other _ _ _ _ (fun e=>hq (by omega))];exact ih q hq
theorem own_of_names {c:Sr} (hn:c.nm=nameB) (hk:∀n,n < c.ops.length→0≤(opN c.ops n).k∧(opN c.ops n).k < 8):OwnNm c:=by
 intro ord S ord' S' h h' e;rw[hn] at e;obtain⟨e1,e2⟩:=nameB_inj e;refine⟨e1,funext fun q=>?_⟩;by_cases hq:0≤q∧q < 8
 ·have:=e2 q.toNat (by omega)
  rwa [Int.toNat_of_nonneg hq.1] at this
 ·rw[reach_out hk h q hq,reach_out hk h' q hq]
theorem maskN_lt {ord:List Nat} (h:∀n∈ord,n < 64):maskN ord < 18446744073709551616:=by
 have:maskN ord < 2 ^ 64:=by
  apply Nat.lt_pow_two_of_testBit
  intro i hi;rw[maskN_bit];cases hc:ord.contains i with
  | false=>rfl
  | true=>have:=h i (by simpa using hc);omega
 simpa using this
def coversN (m p:Nat):Bool:=(p&&& (18446744073709551615 - m))==0
theorem not_bit {m:Nat} (hm:m < 18446744073709551616) (i:Nat):(18446744073709551615 - m).testBit i=(decide (i < 64)&& !m.testBit i):=by
 have:=Nat.testBit_two_pow_sub_succ (n:=64) (x:=m) (by simpa using hm) i;rw[←this]
 congr 1
 omega
theorem coversN_mask {a b:List Nat} (ha:∀n∈a,n < 64) (hb:∀n∈b,n < 64):coversN (maskN a) (maskN b)=b.all a.contains:=by
 have hm:=maskN_lt ha;rw[Bool.eq_iff_iff];unfold coversN;rw[beq_iff_eq,List.all_eq_true]
 constructor
 ·intro h x hx;have:=congrArg (fun m:Nat=>m.testBit x) h;simp only[Nat.testBit_and,Nat.zero_testBit,not_bit hm,maskN_bit] at this;have hx64:=hb x hx;have hc:b.contains x=true:=by simpa using hx
  rw[hc] at this;simp[hx64] at this
  simpa using this
 ·intro h
  apply Nat.eq_of_testBit_eq
  intro i;simp only[Nat.testBit_and,Nat.zero_testBit,not_bit hm,maskN_bit];cases hc:b.contains i with
  | false=>simp
  | true=>
   have:=h i (by simpa using hc);rw[this];simp
theorem or_bit {ord:List Nat} {n:Nat} :maskN ord||| 2 ^ n=maskN (ord++ [n]):=(maskN_snoc ord n).symm
theorem andNot_bit {ord:List Nat} {n:Nat} (hn:n < 64) (h:n∉ord) (ho:∀m∈ord,m < 64):maskN (ord++ [n])&&& (18446744073709551615 - 2 ^ n)=maskN ord:=by
 have hm:2 ^ n < 18446744073709551616:=by
  have:2 ^ n < 2 ^ 64:=Nat.pow_lt_pow_right (by decide) hn
  simpa using this
 apply Nat.eq_of_testBit_eq
 intro i;rw[Nat.testBit_and,not_bit hm,maskN_bit,maskN_bit,Nat.testBit_two_pow];by_cases hi:i=n
 ·subst hi;simp[h]
 ·have h1:(ord++ [n]).contains i=ord.contains i:=by
   rw[Bool.eq_iff_iff];simp[hi]
  rw[h1];cases hc:ord.contains i with
  | false=>simp
  | true=>
   have:=ho i (by simpa using hc);simp[this];omega
def endL (ops:List Opn):List Nat:=(List.range ops.length).filter fun n=>decide (0≤(opN ops n).e)
def waitL (ops:List Opn) (ah:Opn→Opn→Bool) (b:Nat):List Nat:=(List.range ops.length).filter fun a=>a != b&&ah (opN ops a) (opN ops b)
theorem endL_lt {ops:List Opn} :∀n∈endL ops,n < ops.length:=fun _ h=>List.mem_range.1 (List.mem_filter.1 h).1
theorem waitL_lt {ops:List Opn} {ah:Opn→Opn→Bool} {b:Nat} :∀n∈waitL ops ah b,n < ops.length:=fun _ h=>List.mem_range.1 (List.mem_filter.1 h).1
theorem over_all (ops:List Opn) (ord:List Nat):(endL ops).all ord.contains=overB ops ord:=by
 unfold endL overB;rw[List.all_filter]
 congr 1
 funext n
 by_cases h:(opN ops n).e < 0
 ·have:¬0≤(opN ops n).e:=by omega
  simp[h,this]
 ·have:0≤(opN ops n).e:=by omega
  simp[h,this]
theorem free_all (c:Sr) (ord:List Nat) (n:Nat):(!ord.contains n&&(waitL c.ops c.ah n).all ord.contains)=freeB c ord n:=by
 unfold waitL freeB;rw[List.all_filter]
 congr 2
 funext a
 cases h1:(a==n)<;>cases h2:c.ah (opN c.ops a) (opN c.ops n)<;>simp[bne,h1]
open Go.RowKit
theorem pow_lt64 {n:Nat} (h:n < 64):2 ^ n < 18446744073709551616:=by
 have:2 ^ n < 2 ^ 64:=Nat.pow_lt_pow_right (by decide) h;exact this
theorem shl_one {n:Nat} (h:n < 64):IntKind.u64.wrap ((2:Int) ^ n)=((2 ^ n:Nat):Int):=by
 have h1:=pow_lt64 h;have e:(2:Int) ^ n=((2 ^ n:Nat):Int):=(Int.natCast_pow 2 n).symm;rw[e,IntKind.wrap_u64];generalize 2 ^ n=p at h1;omega
theorem ret_int {k:IntKind} {a b:Int} (h:a=b):Ending.returned (.int k a)=.returned (.int k b):=by rw[h]
theorem ret_bool {a b:Bool} (h:a=b):Ending.returned (.bool a)=.returned (.bool b):=by rw[h]
set_option maxHeartbeats 400000 in
theorem bit_any (n:Nat) (w:World) (hn:n < 64):Calls Tryz.prog 83 #[.int .i64 n] w fun e w'=>e=.returned (.int .u64 (2 ^ n:Nat))∧w'=w:=by
 have h1:(0:Int)≤(n:Int):=by omega
 have h2:(n:Int)≤64:=by omega
 go_enter Tryz.func83,Tryz.ntmps83
 go_wp2;go_ret;exact⟨ret_int (shl_one hn),rfl⟩
theorem has_bits {m n:Nat} (hm:m < 18446744073709551616) (hn:n < 64):(bits .and .u64 (m:Int) ((2 ^ n:Nat):Int) != 0)=m.testBit n:=by
 rw[bits_and_u64_nat m (2 ^ n) hm (pow_lt64 hn),Bool.eq_iff_iff,bne_iff_ne];have key:m&&& 2 ^ n=0↔m.testBit n=false:=by
  constructor
  ·intro h;have:=congrArg (fun q:Nat=>q.testBit n) h
   simpa [Nat.testBit_and,Nat.testBit_two_pow] using this
  ·intro h
   apply Nat.eq_of_testBit_eq
   intro i;rw[Nat.testBit_and,Nat.testBit_two_pow,Nat.zero_testBit];by_cases e:n=i
   ·subst e;rw[h];rfl
   ·simp[e]
 constructor
 ·intro h;cases hb:m.testBit n with
  | true=>rfl
  | false=>exact absurd (by rw[key.2 hb];rfl) h
 ·intro h e;have:m&&& 2 ^ n=0:=by exact_mod_cast e
  rw[key.1 this] at h;cases h
set_option maxHeartbeats 400000 in
theorem has_any (m n:Nat) (w:World) (hm:m < 18446744073709551616) (hn:n < 64):Calls Tryz.prog 82 #[.int .u64 m,.int .i64 n] w fun e w'=>e=.returned (.bool (m.testBit n))∧w'=w:=by
 have HB:=hideIt (has_bits hm hn);obtain⟨p,hp⟩:∃p:Nat,p=2 ^ n:=⟨_,rfl⟩;rw[←hp] at HB;have HC:Hid (Calls Tryz.prog 83 #[.int .i64 n] w fun e w'=>e=.returned (.int .u64 (p:Nat))∧w'=w):=by rw[hp];exact bit_any n w hn
 clear hp;go_enter Tryz.func82,Tryz.ntmps82
 go_wp2_with (go_at_call 83;refine HC.out.mono ?_;rintro e w' ⟨rfl,rfl⟩)
 go_ret;exact⟨ret_bool HB.out,rfl⟩
theorem covers_bits {m p:Nat} (hm:m < 18446744073709551616) (hp:p < 18446744073709551616):(bits .andNot .u64 (p:Int) (m:Int)==0)=coversN m p:=by
 rw[u64_andNot_nat p m hp hm];unfold coversN;rw[Bool.eq_iff_iff,beq_iff_eq,beq_iff_eq];exact⟨fun h=>by exact_mod_cast h,fun h=>by exact_mod_cast h⟩
set_option maxHeartbeats 400000 in
theorem covers_any (m p:Nat) (w:World) (hm:m < 18446744073709551616) (hp:p < 18446744073709551616):Calls Tryz.prog 84 #[.int .u64 m,.int .u64 p] w fun e w'=>e=.returned (.bool (coversN m p))∧w'=w:=by
 have HB:=hideIt (covers_bits hm hp);clear hm hp;go_enter Tryz.func84,Tryz.ntmps84
 go_wp2;go_ret;exact⟨ret_bool HB.out,rfl⟩
end Go.Proofs.YtjpklmighoondaaGreatDoor
