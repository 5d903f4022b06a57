/-
  strings.IndexRune in the brackets, the comma and the blank, at a rune beyond ASCII: it is not there.
  strings.IndexAny at the brackets, the comma and the blank, in any bytes.
  The reader's signs.
-/
import Derived.Test.YtjpklmighoondaaGreatDoorFieldsQY
import Derived.Test.YtjpklmighoondaaGreatDoorGnHY
import Derived.Laws.RangeAny
import Derived.Laws.Runes
import Derived.WalkMore
import Derived.Deep.RegionHeld3
import Derived.Shelf.Small.Utf8
import Derived.Shelf.Strings.Search1
import Derived.Lib.OthersKept
import Derived.Test.YtjpklmighoondaaGreatDoorRdFY
import Derived.Maps.AppendAt
set_option maxRecDepth 100000
namespace Go.Proofs.YtjpklmighoondaaGreatDoor.Gn
open Go.RowKit Go.Shelf
def seps:Bt:= [40,41,44,32]
theorem enc_hb (n:Nat) (h1:128≤n) (h2:n < 256):128≤(UInt8.ofNat n).toNat:=by
 rw[UInt8.toNat_ofNat'];omega
theorem val_lt (r:Nat):(if Utf8.valid (r:Int)=true then (r:Int).toNat else Utf8.runeError) < 1114112:=by
 split
 ·rename_i hv
  simp only[Utf8.valid,Bool.or_eq_true,Bool.and_eq_true,decide_eq_true_eq] at hv;omega
 ·decide
theorem val_ge (r:Nat) (h:128≤r):128≤(if Utf8.valid (r:Int)=true then (r:Int).toNat else Utf8.runeError):=by
 split
 ·omega
 ·decide
def HiB (b:ByteArray) (m:Nat):Prop:=b.size=m+1∧∀k (hk:k < b.size),128≤(b[k]'hk).toNat
theorem hi2 (x y:UInt8) (hx:128≤x.toNat) (hy:128≤y.toNat):HiB ⟨#[x,y]⟩ 1:=⟨rfl,fun k hk=>by
 match k,hk with
 | 0,_=>exact hx
 | 1,_=>exact hy⟩
theorem hi3 (x y z:UInt8) (hx:128≤x.toNat) (hy:128≤y.toNat) (hz:128≤z.toNat):HiB ⟨#[x,y,z]⟩ 2:=⟨rfl,fun k hk=>by
 match k,hk with
 | 0,_=>exact hx
 | 1,_=>exact hy
 | 2,_=>exact hz⟩
theorem hi4 (x y z u:UInt8) (hx:128≤x.toNat) (hy:128≤y.toNat) (hz:128≤z.toNat) (hu:128≤u.toNat):HiB ⟨#[x,y,z,u]⟩ 3:=⟨rfl,fun k hk=>by
 match k,hk with
 | 0,_=>exact hx
 | 1,_=>exact hy
 | 2,_=>exact hz
 | 3,_=>exact hu⟩
theorem enc_form (r:Nat) (h:128≤r):∃m,1≤m∧m≤3∧HiB (Utf8.encode (r:Int)) m:=by
 have h0:=val_ge r h;have h1:=val_lt r;unfold Utf8.encode;generalize (if Utf8.valid (r:Int)=true then (r:Int).toNat else Utf8.runeError)=c at*
 simp only;rw[if_neg (by omega)]
 split
 ·exact⟨1,by omega,by omega,hi2 _ _ (enc_hb _ (by omega) (by omega)) (enc_hb _ (by omega) (by omega))⟩
 ·split
  ·exact⟨2,by omega,by omega,hi3 _ _ _ (enc_hb _ (by omega) (by omega)) (enc_hb _ (by omega) (by omega)) (enc_hb _ (by omega) (by omega))⟩
  ·exact⟨3,by omega,by omega,hi4 _ _ _ _ (enc_hb _ (by omega) (by omega)) (enc_hb _ (by omega) (by omega)) (enc_hb _ (by omega) (by omega)) (enc_hb _ (by omega) (by omega))⟩
theorem indexByte_none (l:Bt) (y:UInt8) (hy:128≤y.toNat) (hl:∀x∈l,x.toNat < 128):Lib.indexByte l y= -1:=by
 induction l with
 | nil=>rfl
 | cons x l ih=>
  have hx:=hl x (by simp);have hne:(x==y)=false:=by
   rw[beq_eq_false_iff_ne];intro e;subst e;omega
  simp only[Lib.indexByte,hne];rw[ih (fun z hz=>hl z (by simp[hz]))];simp
set_option maxHeartbeats 4000000 in
theorem indexRune_v1 (r:Nat) (b:ByteArray) (w:World) (h0:128≤r) (q3:((r:Int)==65533)=false) (hb:Utf8.encode (r:Int)=b) (hsz:(b.size:Int) - 1=1) (y:UInt8) (hmb:1 < b.size) (hy:b[1]'hmb=y) (hy1:128≤y.toNat)
  (HV:Hid (∀W,Calls Tryz.prog 254 #[.int .i32 (r:Int)] W fun e w'=>e=.returned (.bool true)∧w'=W))
  (HIx:Hid (∀(l:Bt) (y:UInt8) (W:World),128≤y.toNat→(∀x∈l,x.toNat < 128)→Calls Tryz.prog 253 #[.string (ba l),.int .u8 (y.toNat:Int)] W fun e w'=>e=.returned (.int .i64 (-1))∧w'=W)):
  Calls Tryz.prog 216 #[.string ⟨#[40,41,44,32]⟩,.int .i32 (r:Int)] w fun e w'=>e=.returned (.int .i64 (-1))∧Fr [] w w':=by
 have q1:¬((r:Int) < 128):=by omega
 have q2:(0:Int)≤(r:Int):=by omega
 have e1:(((ByteArray.mk #[40,41,44,32])[1]'(by decide)).toNat:Int)=41:=rfl;have n1:(((((ByteArray.mk #[40,41,44,32])[1]'(by decide)).toNat:Int)) != (y.toNat:Int))=true:=by rw[e1];simp;omega
 clear e1;have hmi:(1:Int) < (b.size:Int):=by omega
 have hw1:IntKind.i64.wrap 2=2:=by decide
 have hex:(ByteArray.mk #[40,41,44,32]).extract 2 4=ba [44,32]:=by decide
 have HK:=hideIt (fun W=>HIx.out [44,32] y W hy1 (by decide));clear HIx;go_enter Tryz.func216,Tryz.ntmps216
 go_wp2_with fail
 refine(HV.out _).mono ?_;rintro z w1 ⟨rfl,rfl⟩;go_wp2_with fail
 go_step3
 go_wp2_with fail
 go_loopg [9,10] 1 (fun _ s9 s10 wx=>s9=.int .i64 1∧s10=.int .i64 0∧wx=w1)
 case atStart=>exact⟨by first | rfl | (rw[hsz]),rfl,rfl⟩
 case round=>
  obtain⟨rfl,rfl,rfl⟩:=hrel;go_wp2_with fail
  go_step3
  go_wp2_with fail
  go_quiet (fail)
  generalize hyy:(y.toNat:Int)=yy at*
  go_wp2_with fail
  refine wp_region_held_drew (S:=fun _=>True) (by kernel_rfl) trivial (fun hHeld=>?_);refine tkH 0 ?_ rfl ?_ ?_;rotate_left 1
  ·intro wz hwz;go_simp;all_goals with_reducible rfl
  simp only[Act.put,p1,p2,p3,p4,p5];refine tkH 1 ?_ rfl ?_ ?_;rotate_left 1
  ·intro wz hwz;go_simp;all_goals with_reducible rfl
  simp only[Act.put,p1,p2,p3,p4,p5,p6];refine tkH 2 ?_ rfl ?_ ?_;rotate_left 1
  ·intro wz hwz;go_simp;all_goals with_reducible rfl
  simp only[Act.put,p1,p2,p3,p4,p5,p6];refine tkH 3 ?_ rfl ?_ ?_;rotate_left 1
  ·intro wz hwz;go_simp;all_goals with_reducible rfl
  simp only[Act.put,p1,p2,p3,p4,p5,p6];refine tkH 4 ?_ rfl ?_ ?_;rotate_left 1
  ·intro wz hwz;go_simp;all_goals with_reducible rfl
  simp only[Act.put,p1,p2,p3,p4,p5,p6];refine tkH 5 ?_ rfl ?_ ?_;rotate_left 1
  ·intro wz hwz;go_simp;all_goals with_reducible rfl
  simp only[Act.put,p1,p2,p3,p4,p5,p6];refine tkH 6 ?_ rfl ?_ ?_;rotate_left 1
  ·intro wz hwz;go_simp;all_goals with_reducible rfl
  simp only[Act.put,p1,p2,p3,p4,p5,p6];refine wpAnyH_ready (rs:= [7]) (by kernel_rfl) (by simp) (AllReadyH.cons rfl (fun K hK=>?_) AllReadyH.nil);go_simp;refine(HK.out _).mono ?_;rintro z w2 ⟨rfl,rfl⟩;refine hK.out _ _ ?_ (fun hHeld=>?_)
  ·trivial
  clear hK K;refine tkH 8 ?_ rfl ?_ ?_;rotate_left 1
  ·intro wz hwz;go_simp;all_goals with_reducible rfl
  simp only[Act.put,p1,p2,p3,p4,p5,p6];refine wpAnyH_done (by kernel_rfl) ?_ _;go_wp2;rw[Exit.noGoto_ret];go_wp2;rw[Exit.noGoto_ret];go_wp2;go_ret;exact⟨rfl,Fr.drewN _ _ _⟩
set_option maxHeartbeats 4000000 in
theorem indexRune_v2 (r:Nat) (b:ByteArray) (w:World) (h0:128≤r) (q3:((r:Int)==65533)=false) (hb:Utf8.encode (r:Int)=b) (hsz:(b.size:Int) - 1=2) (y:UInt8) (hmb:2 < b.size) (hy:b[2]'hmb=y) (hy1:128≤y.toNat)
  (HV:Hid (∀W,Calls Tryz.prog 254 #[.int .i32 (r:Int)] W fun e w'=>e=.returned (.bool true)∧w'=W))
  (HIx:Hid (∀(l:Bt) (y:UInt8) (W:World),128≤y.toNat→(∀x∈l,x.toNat < 128)→Calls Tryz.prog 253 #[.string (ba l),.int .u8 (y.toNat:Int)] W fun e w'=>e=.returned (.int .i64 (-1))∧w'=W)):
  Calls Tryz.prog 216 #[.string ⟨#[40,41,44,32]⟩,.int .i32 (r:Int)] w fun e w'=>e=.returned (.int .i64 (-1))∧Fr [] w w':=by
 have q1:¬((r:Int) < 128):=by omega
 have q2:(0:Int)≤(r:Int):=by omega
 have e1:(((ByteArray.mk #[40,41,44,32])[2]'(by decide)).toNat:Int)=44:=rfl;have n1:(((((ByteArray.mk #[40,41,44,32])[2]'(by decide)).toNat:Int)) != (y.toNat:Int))=true:=by rw[e1];simp;omega
 clear e1;have hmi:(2:Int) < (b.size:Int):=by omega
 have hw2:IntKind.i64.wrap 3=3:=by decide
 have hex:(ByteArray.mk #[40,41,44,32]).extract 3 4=ba [32]:=by decide
 have HK:=hideIt (fun W=>HIx.out [32] y W hy1 (by decide));clear HIx;go_enter Tryz.func216,Tryz.ntmps216
 go_wp2_with fail
 refine(HV.out _).mono ?_;rintro z w1 ⟨rfl,rfl⟩;go_wp2_with fail
 go_step3
 go_wp2_with fail
 go_loopg [9,10] 1 (fun _ s9 s10 wx=>s9=.int .i64 2∧s10=.int .i64 0∧wx=w1)
 case atStart=>exact⟨by first | rfl | (rw[hsz]),rfl,rfl⟩
 case round=>
  obtain⟨rfl,rfl,rfl⟩:=hrel;go_wp2_with fail
  go_step3
  go_wp2_with fail
  go_quiet (fail)
  generalize hyy:(y.toNat:Int)=yy at*
  go_wp2_with fail
  refine wp_region_held_drew (S:=fun _=>True) (by kernel_rfl) trivial (fun hHeld=>?_);refine tkH 0 ?_ rfl ?_ ?_;rotate_left 1
  ·intro wz hwz;go_simp;all_goals with_reducible rfl
  simp only[Act.put,p1,p2,p3,p4,p5];refine tkH 1 ?_ rfl ?_ ?_;rotate_left 1
  ·intro wz hwz;go_simp;all_goals with_reducible rfl
  simp only[Act.put,p1,p2,p3,p4,p5,p6];refine tkH 2 ?_ rfl ?_ ?_;rotate_left 1
  ·intro wz hwz;go_simp;all_goals with_reducible rfl
  simp only[Act.put,p1,p2,p3,p4,p5,p6];refine tkH 3 ?_ rfl ?_ ?_;rotate_left 1
  ·intro wz hwz;go_simp;all_goals with_reducible rfl
  simp only[Act.put,p1,p2,p3,p4,p5,p6];refine tkH 4 ?_ rfl ?_ ?_;rotate_left 1
  ·intro wz hwz;go_simp;all_goals with_reducible rfl
  simp only[Act.put,p1,p2,p3,p4,p5,p6];refine tkH 5 ?_ rfl ?_ ?_;rotate_left 1
  ·intro wz hwz;go_simp;all_goals with_reducible rfl
  simp only[Act.put,p1,p2,p3,p4,p5,p6];refine tkH 6 ?_ rfl ?_ ?_;rotate_left 1
  ·intro wz hwz;go_simp;all_goals with_reducible rfl
  simp only[Act.put,p1,p2,p3,p4,p5,p6];refine wpAnyH_ready (rs:= [7]) (by kernel_rfl) (by simp) (AllReadyH.cons rfl (fun K hK=>?_) AllReadyH.nil);go_simp;refine(HK.out _).mono ?_;rintro z w2 ⟨rfl,rfl⟩;refine hK.out _ _ ?_ (fun hHeld=>?_)
  ·trivial
  clear hK K;refine tkH 8 ?_ rfl ?_ ?_;rotate_left 1
  ·intro wz hwz;go_simp;all_goals with_reducible rfl
  simp only[Act.put,p1,p2,p3,p4,p5,p6];refine wpAnyH_done (by kernel_rfl) ?_ _;go_wp2;rw[Exit.noGoto_ret];go_wp2;rw[Exit.noGoto_ret];go_wp2;go_ret;exact⟨rfl,Fr.drewN _ _ _⟩
set_option maxHeartbeats 4000000 in
theorem indexRune_v3 (r:Nat) (b:ByteArray) (w:World) (h0:128≤r) (q3:((r:Int)==65533)=false) (hb:Utf8.encode (r:Int)=b) (hsz:(b.size:Int) - 1=3) (y:UInt8) (hmb:3 < b.size) (hy:b[3]'hmb=y) (hy1:128≤y.toNat)
  (HV:Hid (∀W,Calls Tryz.prog 254 #[.int .i32 (r:Int)] W fun e w'=>e=.returned (.bool true)∧w'=W))
  (HIx:Hid (∀(l:Bt) (y:UInt8) (W:World),128≤y.toNat→(∀x∈l,x.toNat < 128)→Calls Tryz.prog 253 #[.string (ba l),.int .u8 (y.toNat:Int)] W fun e w'=>e=.returned (.int .i64 (-1))∧w'=W)):
  Calls Tryz.prog 216 #[.string ⟨#[40,41,44,32]⟩,.int .i32 (r:Int)] w fun e w'=>e=.returned (.int .i64 (-1))∧Fr [] w w':=by
 have q1:¬((r:Int) < 128):=by omega
 have q2:(0:Int)≤(r:Int):=by omega
 have e1:(((ByteArray.mk #[40,41,44,32])[3]'(by decide)).toNat:Int)=32:=rfl;have n1:(((((ByteArray.mk #[40,41,44,32])[3]'(by decide)).toNat:Int)) != (y.toNat:Int))=true:=by rw[e1];simp;omega
 clear e1;have hmi:(3:Int) < (b.size:Int):=by omega
 have hw3:IntKind.i64.wrap 4=4:=by decide
 have hex:(ByteArray.mk #[40,41,44,32]).extract 4 4=ba []:=by decide
 have HK:=hideIt (fun W=>HIx.out [] y W hy1 (by decide));clear HIx;go_enter Tryz.func216,Tryz.ntmps216
 go_wp2_with fail
 refine(HV.out _).mono ?_;rintro z w1 ⟨rfl,rfl⟩;go_wp2_with fail
 go_step3
 go_wp2_with fail
 go_loopg [9,10] 1 (fun _ s9 s10 wx=>s9=.int .i64 3∧s10=.int .i64 0∧wx=w1)
 case atStart=>exact⟨by first | rfl | (rw[hsz]),rfl,rfl⟩
 case round=>
  obtain⟨rfl,rfl,rfl⟩:=hrel;go_wp2_with fail
  go_step3
  go_wp2_with fail
  go_quiet (fail)
  generalize hyy:(y.toNat:Int)=yy at*
  go_wp2_with fail
  refine wp_region_held_drew (S:=fun _=>True) (by kernel_rfl) trivial (fun hHeld=>?_);refine tkH 0 ?_ rfl ?_ ?_;rotate_left 1
  ·intro wz hwz;go_simp;all_goals with_reducible rfl
  simp only[Act.put,p1,p2,p3,p4,p5];refine tkH 1 ?_ rfl ?_ ?_;rotate_left 1
  ·intro wz hwz;go_simp;all_goals with_reducible rfl
  simp only[Act.put,p1,p2,p3,p4,p5,p6];refine tkH 2 ?_ rfl ?_ ?_;rotate_left 1
  ·intro wz hwz;go_simp;all_goals with_reducible rfl
  simp only[Act.put,p1,p2,p3,p4,p5,p6];refine tkH 3 ?_ rfl ?_ ?_;rotate_left 1
  ·intro wz hwz;go_simp;all_goals with_reducible rfl
  simp only[Act.put,p1,p2,p3,p4,p5,p6];refine tkH 4 ?_ rfl ?_ ?_;rotate_left 1
  ·intro wz hwz;go_simp;all_goals with_reducible rfl
  simp only[Act.put,p1,p2,p3,p4,p5,p6];refine tkH 5 ?_ rfl ?_ ?_;rotate_left 1
  ·intro wz hwz;go_simp;all_goals with_reducible rfl
  simp only[Act.put,p1,p2,p3,p4,p5,p6];refine tkH 6 ?_ rfl ?_ ?_;rotate_left 1
  ·intro wz hwz;go_simp;all_goals with_reducible rfl
  simp only[Act.put,p1,p2,p3,p4,p5,p6];refine wpAnyH_ready (rs:= [7]) (by kernel_rfl) (by simp) (AllReadyH.cons rfl (fun K hK=>?_) AllReadyH.nil);go_simp;refine(HK.out _).mono ?_;rintro z w2 ⟨rfl,rfl⟩;refine hK.out _ _ ?_ (fun hHeld=>?_)
  ·trivial
  clear hK K;refine tkH 8 ?_ rfl ?_ ?_;rotate_left 1
  ·intro wz hwz;go_simp;all_goals with_reducible rfl
  simp only[Act.put,p1,p2,p3,p4,p5,p6];refine wpAnyH_done (by kernel_rfl) ?_ _;go_wp2;rw[Exit.noGoto_ret];go_wp2;rw[Exit.noGoto_ret];go_wp2;go_ret;exact⟨rfl,Fr.drewN _ _ _⟩
set_option maxHeartbeats 4000000 in
theorem indexRune_high (r:Nat) (w:World) (h0:128≤r) (h1:r≤2147483647):
  Calls Tryz.prog 216 #[.string ⟨#[40,41,44,32]⟩,.int .i32 (r:Int)] w fun e w'=>e=.returned (.int .i64 (-1))∧Fr [] w w':=by
 have q1:¬((r:Int) < 128):=by omega
 have q2:(0:Int)≤(r:Int):=by omega
 by_cases he:r=65533
 ·subst he;go_enter Tryz.func216,Tryz.ntmps216
  go_wp2_with fail
  go_loopg [5,6] 4 (fun g _ _ wx=>∃i:Nat,i+g=4∧wx=w.iter ⟨#[40,41,44,32]⟩ i)
  case atStart=>exact⟨0,by omega,rfl⟩
  case round=>
   obtain⟨i,hig,rfl⟩:=hrel;cases gk with
   | zero=>
    obtain rfl:i=4:=by omega
    have hnx:=run_next_end (P:=Tryz.prog) w ⟨#[40,41,44,32]⟩ 4;have hnx:=fun ty=>hnx ty (by decide)
    go_wp2;go_ret;exact⟨rfl,Fr.alloc [] w (.stringIter ⟨#[40,41,44,32]⟩ 4)⟩
   | succ g=>
    have hi:i < (ByteArray.mk #[40,41,44,32]).size:=by show i < 4;omega
    obtain⟨x,hx⟩:∃x:UInt8,(ByteArray.mk #[40,41,44,32])[i]'hi=x:=⟨_,rfl⟩;have hx1:x.toNat < 128:=by
     rw[←hx];have h4:i < 4:=hi
     match i,h4 with
     | 0,_=>exact(by decide:(40:UInt8).toNat < 128)
     | 1,_=>exact(by decide:(41:UInt8).toNat < 128)
     | 2,_=>exact(by decide:(44:UInt8).toNat < 128)
     | 3,_=>exact(by decide:(32:UInt8).toNat < 128)
    have hnx:=fun ty=>run_next_ascii (P:=Tryz.prog) w ⟨#[40,41,44,32]⟩ i ty hi (by rw[hx];exact hx1)
    rw[hx] at hnx;have hne:((x.toNat:Int)==65533)=false:=by simp;omega
    clear hx;go_wp2
    go_roundg g
    case measure=>omega
    case rel=>exact⟨i+1,by omega,rfl⟩
 ·have q3:((r:Int)==65533)=false:=by simp;omega
  obtain⟨m,m1,m2,hsz,hall⟩:=enc_form r h0;have HAll:=hideIt hall;clear hall;have HV:=hideIt (fun W=>Any.utf8_ValidRune {gn_lays152 with} (r:Int) W);have HIx:Hid (∀(l:Bt) (y:UInt8) (W:World),128≤y.toNat→(∀x∈l,x.toNat < 128)→Calls Tryz.prog 253 #[.string (ba l),.int .u8 (y.toNat:Int)] W fun e w'=>e=.returned (.int .i64 (-1))∧w'=W):=hideIt (fun l y W hy hl=>by
   have:=Any.strings_IndexByte {gn_lays152 with} (ba l) (y.toNat:Int) W;rw[ba_data,show ((y.toNat:Int)).toNat.toUInt8=y by simp,indexByte_none l y hy hl] at this;exact this)
  cases hv:Lib.validRune (r:Int) with
  | false=>
   rw[hv] at HV;go_enter Tryz.func216,Tryz.ntmps216
   go_wp2_with fail
   refine(HV.out _).mono ?_;rintro z w1 ⟨rfl,rfl⟩;go_wp2;go_ret;exact⟨rfl,Fr.refl _ _⟩
  | true=>
   rw[hv] at HV;generalize hb:Utf8.encode (r:Int)=b at*
   have hmb:m < b.size:=by omega
   obtain⟨y,hy⟩:∃y:UInt8,b[m]'hmb=y:=⟨_,rfl⟩;have hy1:128≤y.toNat:=by rw[←hy];exact HAll.out m hmb
   have hm3:m=1∨m=2∨m=3:=by omega
   rcases hm3 with rfl | rfl | rfl
   ·exact indexRune_v1 r b w h0 q3 hb (by omega) y hmb hy hy1 HV HIx
   ·exact indexRune_v2 r b w h0 q3 hb (by omega) y hmb hy hy1 HV HIx
   ·exact indexRune_v3 r b w h0 q3 hb (by omega) y hmb hy hy1 HV HIx
open Go.RowKit Go.Shelf
theorem decode_hi (s:ByteArray) (pos:Nat) (h:pos < s.size) (ha:128≤(s[pos]'h).toNat):∀k,k < (Utf8.decode s pos).2→∃h':pos+k < s.size,128≤(s[pos+k]'h').toNat:=by
 have hn:¬(s[pos]'h).toNat < 128:=by omega
 have key:∀k,(decide (pos+k < s.size)&&((s.get! (pos+k)).toNat / 64==2))=true→∃h':pos+k < s.size,128≤(s[pos+k]'h').toNat:=fun k hk=>by
  rw[Bool.and_eq_true,decide_eq_true_eq,beq_iff_eq] at hk;refine⟨hk.1,?_⟩;have e:s.get! (pos+k)=s[pos+k]'hk.1:=get_at s (pos+k) hk.1;rw[←e];omega
 have k0:∃h':pos+0 < s.size,128≤(s[pos+0]'h').toNat:=⟨h,ha⟩;intro k hk;simp only[Utf8.decode,get_at s pos h,hn,if_false] at hk
 split at hk
 ·rename_i c
  simp only[Bool.and_eq_true] at c;have k1:=key 1 (by rw[Bool.and_eq_true];exact c.2)
  split at hk
  ·match k,hk with
   | 0,_=>exact k0
   | 1,_=>exact k1
  ·match k,hk with
   | 0,_=>exact k0
 ·split at hk
  ·rename_i c
   simp only[Bool.and_eq_true] at c;have k1:=key 1 (by rw[Bool.and_eq_true];exact c.1.2);have k2:=key 2 (by rw[Bool.and_eq_true];exact c.2)
   split at hk
   ·match k,hk with
    | 0,_=>exact k0
    | 1,_=>exact k1
    | 2,_=>exact k2
   ·match k,hk with
    | 0,_=>exact k0
  ·split at hk
   ·rename_i c
    simp only[Bool.and_eq_true] at c;have k1:=key 1 (by rw[Bool.and_eq_true];exact c.1.1.2);have k2:=key 2 (by rw[Bool.and_eq_true];exact c.1.2);have k3:=key 3 (by rw[Bool.and_eq_true];exact c.2)
    split at hk
    ·match k,hk with
     | 0,_=>exact k0
     | 1,_=>exact k1
     | 2,_=>exact k2
     | 3,_=>exact k3
    ·match k,hk with
     | 0,_=>exact k0
   ·match k,hk with
    | 0,_=>exact k0
theorem seps_ascii:∀b∈seps,b.toNat < 128:=by decide
theorem seps_no {x:UInt8} (h:128≤x.toNat):seps.contains x=false:=by
 cases e:seps.contains x with
 | false=>rfl
 | true=>
  have:=seps_ascii x (by simpa using e);omega
theorem noAny_more {l:Bt} :∀(n i:Nat),Lib.NoAny l seps i→(∀k,k < n→∃x,l[i+k]?=some x∧128≤x.toNat)→Lib.NoAny l seps (i+n)
 | 0,_,h,_=>h
 | n+1,i,h,hk=>by
  obtain⟨x,hx,h1⟩:=hk n (by omega);exact(noAny_more n i h (fun k hk'=>hk k (by omega))).succ hx (seps_no h1)
set_option maxHeartbeats 8000000 in
set_option maxRecDepth 1000000 in
theorem indexAny_short (s:ByteArray) (w:World) (h8:s.size≤8):
  Calls Tryz.prog 145 #[.string s,.string ⟨#[40,41,44,32]⟩] w fun e w'=>e=.returned (.int .i64 (Lib.indexAny s.data.toList seps))∧Fr [] w w':=by
 have h8z:decide ((8:Int) < (s.size:Int))=false:=decide_eq_false (by omega);have HU:=hideIt (fun (n:Int) (W:World)=>Any.strings_shouldUseASCIISet {gn_lays153 with} n W);have HR:=hideIt (fun (r:Int) (W:World) (a:0≤r) (b:r < 128)=>Any.strings_IndexRune_ascii {gn_lays153 with} ⟨#[40,41,44,32]⟩ r W a b);go_enter Tryz.func145,Tryz.ntmps145
 go_wp2_with fail
 refine(HU.out _ _).mono ?_;rintro e w' ⟨rfl,rfl⟩;rw[h8z];go_wp2_with fail
 go_loopg [9,10] s.size (fun g _ _ wx=>∃i:Nat,i+g=s.size∧wx.heap[w'.heap.size]?=some (.stringIter s i)∧Fr [] w' wx∧Lib.NoAny s.data.toList seps i)
 case atStart=>exact⟨0,by omega,heap_new _ _,Fr.alloc _ _ _,Lib.NoAny.zero _ _⟩
 case round=>
  obtain⟨i,hig,hit,hfr,hno⟩:=hrel;have HN:=hideIt hno;have HF:=hideIt hfr;have HT:=hideIt hit;have hwr:w'.heap.size < wr.heap.size:=(Array.getElem?_eq_some_iff.1 hit).1;clear hno hfr;cases gk with
  | zero=>
   obtain rfl:i=s.size:=by omega
   have hnx:=fun ty=>Lib.run_next_end_at (P:=Tryz.prog) wr _ s s.size ty hit (by omega)
   clear hit;go_wp2;go_ret;exact⟨by rw[Lib.indexAny_none (by rw[←Lib.size_eq];exact HN.out)];rfl,HF.out⟩
  | succ g=>
   have hi:i < s.size:=by omega
   obtain⟨x,hx⟩:∃x:UInt8,s[i]'hi=x:=⟨_,rfl⟩;have hxl:s.data.toList[i]?=some x:=by rw[←hx];exact Lib.data_getElem? s i hi
   have Hx:=hideIt hxl;clear hxl;by_cases hx128:x.toNat < 128
   ·have hnx:=fun ty=>Lib.run_next_ascii_at (P:=Tryz.prog) wr _ s i ty hit hi (by rw[hx];exact hx128)
    rw[hx] at hnx;have HI2:=hideIt (Lib.iterAt_heap wr _ s i (i+1) hit);have HF2:Hid (Fr [] w' (wr.iterAt w'.heap.size s (i+1))):=⟨HF.out.os,HF.out.tape,HF.out.output,by rw[Lib.iterAt_size];exact HF.out.size,fun k hk hn=>(Lib.iterAt_other wr _ k s _ (by omega)).trans (HF.out.block k hk hn),fun k hk=>by rw[Lib.iterAt_other wr _ k s _ (by omega)];exact HF.out.tag k hk⟩;have hcon:=Lib.contains_iff_indexByte seps x;have hback:((x.toNat:Int)).toNat.toUInt8=x:=by simp
    have HR2:=hideIt (fun W=>HR.out (x.toNat:Int) W (by omega) (by omega));rw[hback] at HR2;clear HR hx hit hback;generalize wr.iterAt w'.heap.size s (i+1)=W2 at*
    cases hin:seps.contains x
    ·rw[hin] at hcon;have hlt:¬((0:Int)≤Lib.indexByte seps x):=of_decide_eq_false hcon.symm;clear hcon;change Hid (∀W,Calls _ _ _ W fun e w'=>e=.returned (.int .i64 (Lib.indexByte seps x))∧w'=W) at HR2;generalize Lib.indexByte seps x=ix at*
     go_wp2_with fail
     refine(HR2.out _).mono ?_;rintro e w2 ⟨rfl,rfl⟩;go_wp2
     go_roundg g
     case measure=>omega
     case rel=>exact⟨i+1,by omega,HI2.out,HF2.out,HN.out.succ Hx.out hin⟩
    ·rw[hin] at hcon;have hge:(0:Int)≤Lib.indexByte seps x:=of_decide_eq_true hcon.symm;clear hcon;change Hid (∀W,Calls _ _ _ W fun e w'=>e=.returned (.int .i64 (Lib.indexByte seps x))∧w'=W) at HR2;generalize Lib.indexByte seps x=ix at*
     go_wp2_with fail
     refine(HR2.out _).mono ?_;rintro e w2 ⟨rfl,rfl⟩;go_wp2;go_ret;exact⟨by rw[Lib.indexAny_hit HN.out Hx.out hin];rfl,HF2.out⟩
   ·have hnx:=fun ty=>Lib.run_next_any_at (P:=Tryz.prog) wr _ s i ty hit hi
    have hdh:=decode_high s i hi (by rw[hx];omega);have hdl:=decode_le s i;have hdk:=decode_hi s i hi (by rw[hx];omega);have HI2:=hideIt (Lib.iterAt_heap wr _ s i (i+(Utf8.decode s i).2) hit);have HF2:Hid (Fr [] w' (wr.iterAt w'.heap.size s (i+(Utf8.decode s i).2))):=⟨HF.out.os,HF.out.tape,HF.out.output,by rw[Lib.iterAt_size];exact HF.out.size,fun k hk hn=>(Lib.iterAt_other wr _ k s _ (by omega)).trans (HF.out.block k hk hn),fun k hk=>by rw[Lib.iterAt_other wr _ k s _ (by omega)];exact HF.out.tag k hk⟩;have hno2:Lib.NoAny s.data.toList seps (i+(Utf8.decode s i).2):=noAny_more _ i HN.out (fun k hk=>by
     obtain⟨h',h2⟩:=hdk k hk;exact⟨_,Lib.data_getElem? s (i+k) h',h2⟩)
    have hn1:1≤(Utf8.decode s i).2:=hdh.2;have HNo:=hideIt hno2;have hsz2:i+(Utf8.decode s i).2≤s.size:=by
     obtain⟨h',_⟩:=hdk ((Utf8.decode s i).2 - 1) (by omega);omega
    have HRR:=hideIt (fun W=>indexRune_high (Utf8.decode s i).1 W hdh.1 hdl);clear HR hx hit hno2 hdk hdh hdl;generalize wr.iterAt w'.heap.size s (i+(Utf8.decode s i).2)=W2 at*
    generalize (Utf8.decode s i).2=dn at*
    generalize (Utf8.decode s i).1=dr at*
    go_wp2_with fail
    refine(HRR.out _).mono ?_;rintro e w2 ⟨rfl,hf2⟩;have hsz3:w'.heap.size < W2.heap.size:=(Array.getElem?_eq_some_iff.1 HI2.out).1;have HI3:=hideIt ((hf2.block _ hsz3 (by simp)).trans HI2.out);have HF3:=hideIt (HF2.out.trans hf2);clear hf2;go_wp2
    go_roundg (s.size - (i+dn))
    case measure=>omega
    case rel=>exact⟨i+dn,by omega,HI3.out,HF3.out,HNo.out⟩
theorem indexAny_call (l:Bt) (w:World) (hl:l.length≤3000):Calls Tryz.prog 145 #[.string (ba l),.string ⟨#[40,41,44,32]⟩] w fun e w'=>e=.returned (.int .i64 (Lib.indexAny l seps))∧Fr [] w w':=by
 by_cases h8:(ba l).size≤8
 ·have:=indexAny_short (ba l) w h8;rw[ba_data] at this;exact this
 ·have:=Any.strings_IndexAny_long gn_lays153 (fun w=>by kernel_rfl) (by kernel_rfl) (ba l) ⟨#[40,41,44,32]⟩ w (by decide) (by omega) (by rw[ba_size];omega) (by decide) (fun j b hj=>seps_ascii b (List.mem_of_getElem? hj));refine this.mono ?_;rintro e w' ⟨rfl,rfl⟩;refine⟨by rw[ba_data];rfl,?_⟩;exact(Fr.alloc [] w _).trans (Fr.alloc [] _ _)
open Go.RowKit
set_option maxHeartbeats 4000000 in
theorem signSize_any (t:Bt) (w:World) (ht:t.length≤2500):
  Calls Tryz.prog 92 #[.string (ba t)] w fun e w'=>e=.returned (.int .i64 ((sgLen t:Nat):Int))∧Fr [] w w':=by
 have HI:=hideIt (indexAny_call t w (by omega));have hs:sgLen t=if Lib.indexAny t seps= -1 then t.length else if Lib.indexAny t seps=0 then 1 else (Lib.indexAny t seps).toNat:=rfl
 have hge: -1≤Lib.indexAny t seps:=Lib.indexAny_ge seps t;have hsz:=ba_size t;generalize Lib.indexAny t seps=q at*
 rw[hs];clear hs;by_cases h1:q= -1
 ·subst h1;go_enter Tryz.func92,Tryz.ntmps92
  go_wp2_with fail
  refine HI.out.mono ?_;rintro y w1 ⟨rfl,hf⟩;go_wp2;go_ret;exact⟨by rfl,hf⟩
 ·by_cases h2:q=0
  ·subst h2;go_enter Tryz.func92,Tryz.ntmps92
   go_wp2_with fail
   refine HI.out.mono ?_;rintro y w1 ⟨rfl,hf⟩;go_wp2;go_ret;exact⟨by rfl,hf⟩
  ·go_enter Tryz.func92,Tryz.ntmps92
   go_wp2_with fail
   refine HI.out.mono ?_;rintro y w1 ⟨rfl,hf⟩;go_wp2;go_ret;exact⟨by simp;omega,hf⟩
theorem indexAny_lt (chars:Bt):∀l:Bt,Lib.indexAny l chars < l.length
 | []=>by simp[Lib.indexAny]
 | b::l=>by
  have ih:=indexAny_lt chars l;unfold Lib.indexAny;simp only[List.length_cons]
  split
  ·omega
  ·split<;>omega
theorem sgLen_pos {l:Bt} (h:l≠ []):1≤sgLen l∧sgLen l≤l.length:=by
 have h1:=Lib.indexAny_ge sepsP l;have h2:=indexAny_lt sepsP l;have h3:0 < l.length:=List.length_pos_iff.2 h;unfold sgLen
 split
 ·omega
 ·split<;>omega
theorem ba_part (t:Bt) (a b:Nat):(ba t).extract a b=ba ((t.drop a).take (b - a)):=by
 apply ByteArray.ext
 simp only[ba,ByteArray.data_extract]
 apply Array.ext'
 simp[List.extract_eq_take_drop]
def sgC (s:Bt×Nat):List Value:= [.string (ba s.1),.int .i64 (s.2:Nat)]
def sgCs (L:List (Bt×Nat)):List Value:=L.flatMap sgC
theorem sgCs_snoc (L:List (Bt×Nat)) (c:Bt×Nat):sgCs (L++ [c])=sgCs L++sgC c:=by simp[sgCs]
theorem infoSg:(Tryz.prog.info? 124).map (fun i=>(i.zero,i.size,i.bytes))=some (some (.agg #[.string ⟨#[]⟩,.int .i64 0]),2,24):=by kernel_rfl
theorem sgs_fuel:∀(n m:Nat) (l:Bt),l.length≤n→l.length≤m→sgs n l=sgs m l
 | 0,0,_,_,_=>rfl
 | 0,m+1,[],_,_=>rfl
 | n+1,0,[],_,_=>rfl
 | 0,_+1,_::_,h,_=>by simp at h
 | _+1,0,_::_,_,h=>by simp at h
 | n+1,m+1,[],_,_=>rfl
 | n+1,m+1,c::l,h,h'=>by
  have hp:=sgLen_pos (l:=c::l) (by simp);simp only[List.length_cons] at h h' hp;simp only[sgs]
  split
  ·exact sgs_fuel n m l (by omega) (by omega)
  ·rw[sgs_fuel n m _ (by simp;omega) (by simp;omega)]
structure SgTold (t : Bt) (w : World) (e : Ending) (w' : World) (S cap : Nat) (ps : List (Bt × Nat)) : Prop where
 ret:e=.returned (.slice (some ⟨S,0,none⟩) ps.length cap)
 row:w'.ownsRow w.heap.size 124 2 (.slice (some ⟨S,0,none⟩) ps.length cap) ps.length (sgCs ps)
 txt:ps.map (·.1)=sgs t.length t++ [[]]
 below:Below w.heap.size w w'
theorem some_of_row {w:World} {base z:Nat} {ty:TypeId} {v:Value} {n:Nat} {us:List Value} (h:w.ownsRow base ty z v n us):∃a c,v=.slice a n c:=by
 rcases h.2 with ⟨e,e2⟩ | ⟨g,cap,cur,e,_⟩
 ·exact⟨none,0,by rw[e,e2]⟩
 ·exact⟨_,_,e⟩
structure SgI (t : Bt) (w wx : World) (sl : Value) (ps : List (Bt × Nat)) (p : Nat) : Prop where
 row:wx.ownsRow w.heap.size 124 2 sl ps.length (sgCs ps)
 txt:sgs t.length t=ps.map (·.1)++sgs (t.length - p) (t.drop p)
 few:ps.length≤p
 le:p≤t.length
 below:Below w.heap.size w wx
set_option maxHeartbeats 8000000 in
theorem signsOf_any (t:Bt) (w:World) (ht:t.length≤2000):
  Calls Tryz.prog 43 #[.string (ba t)] w fun e w'=>∃S cap ps,SgTold t w e w' S cap ps:=by
 have hsz:=ba_size t;have hI:SgI t w w (.slice none 0 0) [] 0:=⟨World.ownsRow_nil _ _ _ _,by simp,Nat.le_refl _,Nat.zero_le _,Below.refl _ _⟩;have HI:=hideIt hI;obtain⟨i0,hi,hz0,hz1,hz2⟩:=info_parts' infoSg;clear hI;go_enter Tryz.func43,Tryz.ntmps43
 go_wp2
 go_loopg [3,4] t.length (fun k sl pl wx=>∃ps p,k+p=t.length∧pl=.int .i64 (p:Nat)∧SgI t w wx sl ps p)
 case atStart=>exact⟨[],0,by simp,rfl,HI.out⟩
 case round=>
  obtain⟨ps,p,hkp,rfl,hS⟩:=hrel;clear HI;have HS:=hideIt hS;obtain⟨a8,c8,rfl⟩:=some_of_row hS.row;have hfew:=hS.few;have hwsz:=hS.below.size;cases gk with
  | zero=>
   have hge:¬(p:Int) < (t.length:Int):=by omega
   clear hS;go_wp2_with (at_builtin;refine wpList_append_own_at _ rfl _ _ 117 rfl w.heap.size 124 i0 _ 2 24 Tryz.underlying117 hi hz0 hz1 hz2 rfl (by decide) _ _ _ rfl (HS.out.row.alloc _) ⟨wr.heap.size,0,none⟩ 1 1 [.string (ba []),.int .i64 (t.length:Nat)] rfl rfl ?c1 ?c2 ?c3 ?c4 ?c5 ?_)
   case c1=>
    intro j u hj
    match j,hj with
    | 0,hj=>simp at hj;subst hj;simp;rfl
    | 1,hj=>simp at hj;subst hj;simp
    | n+2,hj=>simp at hj
   case c2=>exact⟨rfl,rfl⟩
   case c3=>unfold maxLen;omega
   case c4=>omega
   case c5=>omega
   intro v5 W5 ho5 hg5 hn5 hb5;obtain⟨S,c5,rfl⟩:∃S c,v5=.slice (some ⟨S,0,none⟩) (ps.length+1) c:=by
    rcases ho5.2 with ⟨_,e⟩ | ⟨g',c',cur,e,_⟩
    ·omega
    ·exact⟨g',c',e⟩
   have hEnd:SgTold t w (.returned (.slice (some ⟨S,0,none⟩) (ps++ [([],t.length)]).length c5)) W5 S c5 (ps++ [([],t.length)]):=by
    refine⟨rfl,?_,?_,?_⟩
    ·rw[sgCs_snoc,List.length_append];exact ho5
    ·have hx:=HS.out.txt;have e0:t.length - p=0:=by omega
     rw[e0] at hx;rw[hx];simp[sgs]
    ·refine(HS.out.below.alloc (by omega) _).grown hg5 (by simp;omega) (fun g hg=>?_);exact(World.ownsRow.lt HS.out.row g hg).1
   have HEnd:=hideIt hEnd;clear ho5 hg5 hn5 hb5 hEnd;go_wp2;go_ret;exact⟨S,c5,_,by simpa using HEnd.out⟩
  | succ k=>
   have hlt:(p:Int) < (t.length:Int):=by omega
   have hpl:p < t.length:=by omega
   have hps:p < (ba t).size:=by omega
   obtain⟨c,l,hcl⟩:∃c l,t.drop p=c::l:=by
    cases h:t.drop p with
    | nil=>have:=congrArg List.length h;simp at this;omega
    | cons c l=>exact⟨c,l,rfl⟩
   have hlen:=congrArg List.length hcl;simp only[List.length_drop,List.length_cons] at hlen;have htx:=hS.txt;have hkl:t.length - p=l.length+1:=by omega
   have hget:((ba t)[p]'hps).toNat=c.toNat:=by
    have h1:t[p]'hpl=c:=by
     have:=List.drop_eq_getElem_cons hpl;rw[hcl] at this;exact(List.cons.inj this).1.symm
    rw[←h1];rfl
   have hl2:t.drop (p+1)=l:=by
    have:=List.drop_eq_getElem_cons hpl;rw[hcl] at this;exact(List.cons.inj this).2.symm
   rw[hkl,hcl] at htx;simp only[sgs] at htx;have HLen:=hideIt hlen;clear hS;by_cases hc:c=32
   ·subst hc;rw[if_pos rfl] at htx;have hq:(((((ba t)[p]'hps).toNat:Nat):Int)==32)=true:=by rw[hget];rfl
    have HNew:Hid (SgI t w wr (.slice a8 ps.length c8) ps (p+1)):=hideIt ⟨HS.out.row,by rw[htx,hl2];congr 1;exact sgs_fuel _ _ _ (by omega) (by omega),by omega,by omega,HS.out.below⟩;clear htx hcl hl2 hget;go_wp2
    go_roundg k
    case measure=>omega
    case rel=>exact⟨ps,p+1,by omega,rfl,HNew.out⟩
   ·rw[if_neg hc] at htx;have hq:(((((ba t)[p]'hps).toNat:Nat):Int)==32)=false:=by
     rw[hget];have:c.toNat≠32:=fun e=>hc (UInt8.toNat_inj.1 e)
     simp;omega
    obtain⟨z,hz⟩:∃z,sgLen (c::l)=z:=⟨_,rfl⟩;have hzp:=sgLen_pos (l:=c::l) (by simp);rw[hz] at htx hzp;simp only[List.length_cons] at hzp;have he1:(ba t).extract p t.length=ba (c::l):=by
     rw[ba_part,hcl,List.take_of_length_le (by simp;omega)]
    have he2:(ba t).extract p (p+z)=ba ((c::l).take z):=by
     rw[ba_part,hcl,show p+z - p=z by omega]
    have HTx:=hideIt htx;have HG:=hideIt (fun W=>signSize_any (c::l) W (by simp;omega));rw[hz] at HG;have HDr:Hid (t.drop (p+z)=(c::l).drop z):=hideIt (by rw[←hcl,List.drop_drop]);have HHo:Hid (sgs l.length ((c::l).drop z)=sgs (t.length - (p+z)) ((c::l).drop z)):=hideIt (sgs_fuel _ _ _ (by simp;omega) (by simp;omega));clear htx hcl hl2 hget hc hz;go_wp2_with fail
    refine(HG.out _).mono ?_;rintro y W1 ⟨rfl,hf1⟩;have hs1:=hf1.size;have hrow1:W1.ownsRow w.heap.size 124 2 (.slice a8 ps.length c8) ps.length (sgCs ps):=ownsRow_blk HS.out.row (fun g hg=>hf1.block g (World.ownsRow.lt HS.out.row g hg).2 (by simp));have HB1:Hid (Below w.heap.size w W1):=hideIt (HS.out.below.trans (⟨hf1.os,hf1.tape,hf1.output,hf1.size,fun k hk=>hf1.block k (by omega) (by simp)⟩));have HRow1:=hideIt hrow1;clear hf1 hrow1;go_wp2_with (at_builtin;refine wpList_append_own_at _ rfl _ _ 117 rfl w.heap.size 124 i0 _ 2 24 Tryz.underlying117 hi hz0 hz1 hz2 rfl (by decide) _ _ _ rfl (HRow1.out.alloc _) ⟨W1.heap.size,0,none⟩ 1 1 [.string (ba ((c::l).take z)),.int .i64 (p:Nat)] rfl rfl ?c1 ?c2 ?c3 ?c4 ?c5 ?_)
    case c1=>
     intro j u hj
     match j,hj with
     | 0,hj=>simp at hj;subst hj;simp[Addr.add]
     | 1,hj=>simp at hj;subst hj;simp[Addr.add]
     | n+2,hj=>simp at hj
    case c2=>intro u hu;simp at hu;rcases hu with h | h<;>(rw[h];rfl)
    case c3=>unfold maxLen;omega
    case c4=>omega
    case c5=>rw[World.size_alloc];omega
    intro v5 W5 ho5 hg5 hn5 hb5;have HB5:Hid (Below w.heap.size w W5):=hideIt ((HB1.out.alloc (by omega) _).grown hg5 (by simp;omega) (fun g hg=>(World.ownsRow.lt HRow1.out g hg).1));have HNew:Hid (SgI t w W5 v5 (ps++ [((c::l).take z,p)]) (p+z)):=hideIt ⟨by rw[sgCs_snoc,List.length_append];exact ho5,by rw[HTx.out,HDr.out,HHo.out];simp,by simp;omega,by omega,HB5.out⟩;clear ho5 hg5 hn5 hb5;go_wp2
    go_roundg (t.length - (p+z))
    case measure=>omega
    case rel=>exact⟨_,p+z,by omega,by simp,HNew.out⟩
end Go.Proofs.YtjpklmighoondaaGreatDoor.Gn
