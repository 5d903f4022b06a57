/-
  Words between single blanks, taken apart: of no program.
  Plain facts on what may be of an event: numbers alone; nothing of the program is named here.
  What the small functions on an event do: contracts over the translated program.
  What the functions that judge one event do: contracts over the translated program.
  Events as plain data, and rows of them in memory.
  What Text writes, in plain Lean, and that it is read again.
  strings' ReplaceAll, Cut, CutPrefix, Contains, Split and Join, at texts as lists of bytes.
  Short names of laws that the walks use often.
  Chapter 17 in plain Lean: registers by quorums; what is kept whatever is moved.
  Chapter 17 in plain Lean: registers by quorums that meet: what is heard keeps what is kept.
  Plain facts on what may be of ops: numbers and lists alone; nothing of the program is named here.
-/
import Derived.Lib.FieldsP
import Derived.Lib.Join
import Derived.Laws.RangeString
import Derived.Test.YtjpklmighoondaaGreatDoorProg
import Derived.WalkKit
import Derived.WalkSpells
import Derived.WalkLawsBesides
import Derived.Lib.ItoaMem
import Derived.Lib.ParseIntB
import Derived.Lib.IndexMore
import Derived.Test.YtjpklmighoondaaGreatDoorRdBY
import Derived.Test.YtjpklmighoondaaGreatDoorLs4Y
import Derived.Lib.ReplaceLaws
import Derived.OrdersHeld
import Derived.ProofKit
namespace Go.Proofs.YtjpklmighoondaaGreatDoor
open Go.Lib
def spansL:List UInt8→Nat→Option Nat→List (Nat×Nat)→List (Nat×Nat)×Option Nat
 | [],_,st,acc=>(acc,st)
 | c::r,pos,st,acc=>
  if c.toNat==32 then
   (match st with
    | some a=>spansL r (pos+1) none (acc++ [(a,pos)])
    | none=>spansL r (pos+1) none acc)
  else
   (match st with
    | some a=>spansL r (pos+1) (some a) acc
    | none=>spansL r (pos+1) (some pos) acc)
def blankP (r:Nat):Bool:=r==32
theorem spansL_of (s:ByteArray) (ha:∀c∈s.data.toList,c.toNat < 128):∀(f pos:Nat) (st:Option Nat) (acc:List (Nat×Nat)),s.size≤f+pos→spansFromP blankP s f pos st acc=spansL (s.data.toList.drop pos) pos st acc
 | 0,pos,st,acc,h=>by
  rw[List.drop_eq_nil_of_le (by show s.data.toList.length≤pos;have:s.data.toList.length=s.size:=rfl;omega)];rfl
 | f+1,pos,st,acc,h=>by
  unfold spansFromP;by_cases hp:pos < s.size
  ·have hl:pos < s.data.toList.length:=hp;have hc:(s[pos]'hp).toNat < 128:=ha _ (by
    have:s[pos]'hp=s.data.toList[pos]'hl:=rfl;rw[this];exact List.getElem_mem hl)
   rw[if_pos hp,decode_ascii s pos hp hc,List.drop_eq_getElem_cons hl];have e:s.data.toList[pos]'hl=s[pos]'hp:=rfl;rw[e];by_cases h32:blankP (s[pos]'hp).toNat=true
   ·have hr:∀(r:List UInt8),spansL ((s[pos]'hp)::r) pos st acc=(match st with | some a=>spansL r (pos+1) none (acc++ [(a,pos)]) | none=>spansL r (pos+1) none acc):=fun r=>by
     conv=>lhs;unfold spansL
     exact if_pos h32
    rw[hr];refine(if_pos h32).trans ?_;cases st<;>exact spansL_of s ha f (pos+1) _ _ (by omega)
   ·have hr:∀(r:List UInt8),spansL ((s[pos]'hp)::r) pos st acc=(match st with | some a=>spansL r (pos+1) (some a) acc | none=>spansL r (pos+1) (some pos) acc):=fun r=>by
     conv=>lhs;unfold spansL
     exact if_neg h32
    rw[hr];refine(if_neg h32).trans ?_;cases st<;>exact spansL_of s ha f (pos+1) _ _ (by omega)
  ·rw[if_neg hp,List.drop_eq_nil_of_le (by show s.data.toList.length≤pos;have:s.data.toList.length=s.size:=rfl;omega)];rfl
theorem spansL_some:∀(w r:List UInt8) (pos a:Nat) (acc:List (Nat×Nat)),(∀c∈w,c.toNat≠32)→spansL (w++r) pos (some a) acc=spansL r (pos+w.length) (some a) acc
 | [],r,pos,a,acc,_=>by simp
 | c::w,r,pos,a,acc,h=>by
  rw[List.cons_append]
  conv=>lhs;unfold spansL
  rw[if_neg (by have:=h c (by simp);simpa using this)];simp only;rw[spansL_some w r (pos+1) a acc (fun x hx=>h x (by simp[hx])),List.length_cons]
  congr 1;omega
theorem spansL_word (w r:List UInt8) (pos:Nat) (acc:List (Nat×Nat)) (h:∀c∈w,c.toNat≠32) (h0:w≠ []):spansL (w++r) pos none acc=spansL r (pos+w.length) (some pos) acc:=by
 cases w with
 | nil=>exact absurd rfl h0
 | cons c w=>
  rw[List.cons_append]
  conv=>lhs;unfold spansL
  rw[if_neg (by have:=h c (by simp);simpa using this)];simp only;rw[spansL_some w r (pos+1) pos acc (fun x hx=>h x (by simp[hx])),List.length_cons]
  congr 1;omega
theorem spansL_blank (r:List UInt8) (pos a:Nat) (acc:List (Nat×Nat)):spansL (32::r) pos (some a) acc=spansL r (pos+1) none (acc++ [(a,pos)]):=by
 conv=>lhs;unfold spansL
 rw[if_pos (by decide)]
theorem join_two (w v:List UInt8) (r:List (List UInt8)):Lib.join (w::v::r) [32]=w++32::Lib.join (v::r) [32]:=by
 simp[Lib.join,List.intercalate,List.intersperse]
def placesOf:Nat→List (List UInt8)→List (Nat×Nat)
 | _,[]=> []
 | pos,w::r=>(pos,pos+w.length)::placesOf (pos+w.length+1) r
theorem spans_words (s:ByteArray):∀(ws:List (List UInt8)) (pos:Nat) (acc:List (Nat×Nat)),(∀w∈ws,w≠ []∧∀c∈w,c.toNat≠32)→s.size=pos+(Lib.join ws [32]).length→
  closeSpans s (spansL (Lib.join ws [32]) pos none acc)=acc++placesOf pos ws
 | [],pos,acc,_,_=>by simp[Lib.join,spansL,closeSpans,placesOf]
 | [w],pos,acc,h,hs=>by
  have hw:=h w (by simp);have e:Lib.join [w] [32]=w++ []:=by simp[Lib.join]
  rw[e,spansL_word w [] pos acc hw.2 hw.1];rw[e] at hs;simp only[spansL,closeSpans,placesOf];rw[hs];simp
 | w::v::r,pos,acc,h,hs=>by
  have hw:=h w (by simp);rw[join_two] at hs ⊢;rw[spansL_word w _ pos acc hw.2 hw.1,spansL_blank,spans_words s (v::r) (pos+w.length+1) _ (fun x hx=>h x (by simp[hx])) (by rw[hs];simp;omega)];simp[placesOf]
theorem extract_word (s:ByteArray) (a:Nat) (w r:List UInt8) (h:s.data.toList.drop a=w++r):s.extract a (a+w.length)=⟨w.toArray⟩:=by
 apply ByteArray.ext
 rw[ByteArray.data_extract]
 apply Array.ext'
 rw[Array.toList_extract];simp[List.extract,h]
theorem extract_words (s:ByteArray):∀(ws:List (List UInt8)) (pos:Nat),s.data.toList.drop pos=Lib.join ws [32]→(placesOf pos ws).map (fun x=>s.extract x.1 x.2)=ws.map fun w=>⟨w.toArray⟩
 | [],_,_=>rfl
 | [w],pos,h=>by
  have e:Lib.join [w] [32]=w:=by simp[Lib.join]
  rw[e] at h;simp only[placesOf,List.map_cons,List.map_nil];rw[extract_word s pos w [] (by simpa using h)]
 | w::v::r,pos,h=>by
  rw[join_two] at h;have h2:s.data.toList.drop (pos+w.length+1)=Lib.join (v::r) [32]:=by
   rw[←List.drop_drop,←List.drop_drop,h];simp
  rw[placesOf,List.map_cons,extract_words s (v::r) _ h2,List.map_cons,extract_word s pos w _ h];rfl
theorem fields_words (ws:List (List UInt8)) (h:∀w∈ws,w≠ []∧∀c∈w,c.toNat≠32) (ha:∀c∈Lib.join ws [32],c.toNat < 128):Lib.goFieldsP blankP ⟨(Lib.join ws [32]).toArray⟩=ws.map fun w=>⟨w.toArray⟩:=by
 unfold Lib.goFieldsP Lib.spansOfP;rw[spansL_of _ (by simpa using ha) _ _ _ _ (by simp)];have e:(⟨(Lib.join ws [32]).toArray⟩:ByteArray).data.toList.drop 0=Lib.join ws [32]:=by simp
 rw[e,spans_words _ ws 0 [] h (by simp[ByteArray.size])];simp only[List.nil_append];exact extract_words _ ws 0 e
def numB (n:Int):Bool:=decide (-1000000≤n∧n≤1000000)
def kindB (n:Int):Bool:=decide (1≤n∧n≤12)
def eightB (n:Int):Bool:=decide (0≤n∧n < 8)
def inB (p k a b r:Int):Bool:=eightB p&&eightB k&&numB a&&numB b&&numB r
def faultN (p t k d a b r:Int):Int:=
 if inB p k a b r then (if decide (1≤t∧t≤4)&&kindB d then (if decide (r=0∨t=2) then 0 else 1) else 1) else 2
open Go.RowKit
set_option maxHeartbeats 400000 in
theorem isNumber_any (n:Int) (w:World):
  Calls Tryz.prog 171 #[.int .i64 n] w fun e w'=>e=.returned (.bool (numB n))∧w'=w:=by
 by_cases h1: -1000000≤n
 ·by_cases h2:n≤1000000
  ·have e:numB n=true:=by simp[numB,h1,h2]
   rw[e];clear e;go_enter Tryz.func171,Tryz.ntmps171
   go_wp2;go_ret;exact⟨rfl,rfl⟩
  ·have e:numB n=false:=by simp[numB,h2]
   rw[e];clear e;go_enter Tryz.func171,Tryz.ntmps171
   go_wp2;go_ret;exact⟨rfl,rfl⟩
 ·have e:numB n=false:=by simp[numB,h1]
  rw[e];clear e;go_enter Tryz.func171,Tryz.ntmps171
  go_wp2;go_ret;exact⟨rfl,rfl⟩
set_option maxHeartbeats 400000 in
theorem isKind_any (n:Int) (w:World):
  Calls Tryz.prog 120 #[.int .i64 n] w fun e w'=>e=.returned (.bool (kindB n))∧w'=w:=by
 by_cases h1:1≤n
 ·by_cases h2:n≤12
  ·have e:kindB n=true:=by simp[kindB,h1,h2]
   rw[e];clear e;go_enter Tryz.func120,Tryz.ntmps120
   go_wp2;go_ret;exact⟨rfl,rfl⟩
  ·have e:kindB n=false:=by simp[kindB,h2]
   rw[e];clear e;go_enter Tryz.func120,Tryz.ntmps120
   go_wp2;go_ret;exact⟨rfl,rfl⟩
 ·have e:kindB n=false:=by simp[kindB,h1]
  rw[e];clear e;go_enter Tryz.func120,Tryz.ntmps120
  go_wp2;go_ret;exact⟨rfl,rfl⟩
set_option maxHeartbeats 1000000 in
theorem inBounds_any (p k a b r:Int) (w:World):
  Calls Tryz.prog 119 #[.int .i64 p,.int .i64 k,.int .i64 a,.int .i64 b,.int .i64 r] w fun e w'=>e=.returned (.bool (inB p k a b r))∧w'=w:=by
 by_cases h1:0≤p
 ·by_cases h2:p < 8
  ·by_cases h3:0≤k
   ·by_cases h4:k < 8
    ·have e:inB p k a b r=(numB a&&numB b&&numB r):=by simp[inB,eightB,h1,h2,h3,h4]
     rw[e];clear e;go_enter Tryz.func119,Tryz.ntmps119
     go_wp2_with (go_at_call 171;refine(isNumber_any _ _).mono ?_;rintro e w' ⟨rfl,rfl⟩)
     all_goals (go_ret;exact⟨by simp_all,rfl⟩)
    ·have e:inB p k a b r=false:=by simp[inB,eightB,h4]
     rw[e];clear e;go_enter Tryz.func119,Tryz.ntmps119
     go_wp2;go_ret;exact⟨rfl,rfl⟩
   ·have e:inB p k a b r=false:=by simp[inB,eightB,h3]
    rw[e];clear e;go_enter Tryz.func119,Tryz.ntmps119
    go_wp2;go_ret;exact⟨rfl,rfl⟩
  ·have e:inB p k a b r=false:=by simp[inB,eightB,h2]
   rw[e];clear e;go_enter Tryz.func119,Tryz.ntmps119
   go_wp2;go_ret;exact⟨rfl,rfl⟩
 ·have e:inB p k a b r=false:=by simp[inB,eightB,h1]
  rw[e];clear e;go_enter Tryz.func119,Tryz.ntmps119
  go_wp2;go_ret;exact⟨rfl,rfl⟩
open Go.RowKit
def toldV (n:Int):Value:=if n=0 then .nilIface else .iface 55 (.int .i64 n)
open Go.RowKit
structure Ev where
 p:Int
 t:Int
 k:Int
 d:Int
 a:Int
 b:Int
 r:Int
def Ev.cells (e:Ev):List Value:= [.int .i64 e.p,.int .i64 e.t,.int .i64 e.k,.int .i64 e.d,.int .i64 e.a,.int .i64 e.b,.int .i64 e.r]
def evCells (l:List Ev):List Value:=l.flatMap Ev.cells
def EvAt (w:World) (b off:Nat) (e:Ev):Prop:=
 w.cell? ⟨b,off,none⟩=some (.int .i64 e.p)∧w.cell? ⟨b,off+1,none⟩=some (.int .i64 e.t)∧w.cell? ⟨b,off+2,none⟩=some (.int .i64 e.k)∧w.cell? ⟨b,off+3,none⟩=some (.int .i64 e.d)∧w.cell? ⟨b,off+4,none⟩=some (.int .i64 e.a)∧w.cell? ⟨b,off+5,none⟩=some (.int .i64 e.b)∧w.cell? ⟨b,off+6,none⟩=some (.int .i64 e.r)
def EvsAt (w:World) (b off:Nat) (l:List Ev):Prop:=∀i,(h:i < l.length)→EvAt w b (off+i*7) l[i]
theorem EvAt.below {w w':World} {B b off:Nat} {e:Ev} (h:EvAt w b off e) (hb:b < B) (hn:Below B w w'):EvAt w' b off e:=by
 obtain⟨h0,h1,h2,h3,h4,h5,h6⟩:=h;exact⟨(hn.cell (p:=⟨b,off,none⟩) hb).trans h0,(hn.cell (p:=⟨b,off+1,none⟩) hb).trans h1,(hn.cell (p:=⟨b,off+2,none⟩) hb).trans h2,(hn.cell (p:=⟨b,off+3,none⟩) hb).trans h3,(hn.cell (p:=⟨b,off+4,none⟩) hb).trans h4,(hn.cell (p:=⟨b,off+5,none⟩) hb).trans h5,(hn.cell (p:=⟨b,off+6,none⟩) hb).trans h6⟩
open Go.Lib
theorem digit_ok (d:Nat) (h:d < 10):48≤(UInt8.ofNat (48+d)).toNat∧(UInt8.ofNat (48+d)).toNat≤57∧(UInt8.ofNat (48+d)).toNat - 48=d:=by
 have:(UInt8.ofNat (48+d)).toNat=48+d:=by
  rw[UInt8.toNat_ofNat'];omega
 omega
theorem digits_ok (u:Nat):decDigits u≠ []∧∀c∈decDigits u,48≤c.toNat∧c.toNat≤57:=by
 induction u using Nat.strongRecOn with
 | _ u ih=>
  by_cases h:u < 10
  ·rw[decDigits_one h];refine⟨by simp,fun c hc=>?_⟩;rw[List.mem_singleton.1 hc];exact⟨(digit_ok u h).1,(digit_ok u h).2.1⟩
  ·rw[decDigits,dif_neg h];refine⟨by simp,fun c hc=>?_⟩;rcases List.mem_append.1 hc with hc | hc
   ·exact(ih (u / 10) (by omega)).2 c hc
   ·rw[List.mem_singleton.1 hc];exact⟨(digit_ok (u%10) (by omega)).1,(digit_ok (u%10) (by omega)).2.1⟩
theorem parse_snoc (M:Nat) (c:UInt8) (hc:48≤c.toNat∧c.toNat≤57):∀(l:List UInt8) (acc v:Nat),parseUintM M acc l=.ok v→v < 1844674407370955162→v*10+(c.toNat - 48)≤M→parseUintM M acc (l++ [c])=.ok (v*10+(c.toNat - 48))
 | [],acc,v,h,hv,hM=>by
  simp only[parseUintM] at h;obtain rfl:acc=v:=by simpa using h
  simp only[List.nil_append,parseUintM];rw[if_pos hc,if_neg (by omega),if_neg (by omega)]
 | d::l,acc,v,h,hv,hM=>by
  rw[List.cons_append];unfold parseUintM at h ⊢
  split at h
  ·rename_i h1
   rw[if_pos h1]
   split at h
   ·cases h
   ·rename_i h2
    rw[if_neg h2]
    split at h
    ·cases h
    ·rename_i h3
     rw[if_neg h3];exact parse_snoc M c hc l _ v h hv hM
  ·cases h
theorem parse_digits (M u:Nat) (hu:u≤M) (hu2:u < 10000000000000000000):parseUintM M 0 (decDigits u)=.ok u:=by
 induction u using Nat.strongRecOn with
 | _ u ih=>
  by_cases h:u < 10
  ·rw[decDigits_one h];obtain⟨h1,h2,h3⟩:=digit_ok u h;simp only[parseUintM];rw[if_pos ⟨h1,h2⟩,if_neg (by omega),if_neg (by omega)]
   congr 1;omega
  ·rw[decDigits,dif_neg h];obtain⟨h1,h2,h3⟩:=digit_ok (u%10) (by omega);rw[parse_snoc M _ ⟨h1,h2⟩ _ 0 (u / 10) (ih (u / 10) (by omega) (by omega) (by omega)) (by omega) (by omega)]
   congr 1;omega
theorem itoa_ok (n:Int):itoa n≠ []∧∀c∈itoa n,(48≤c.toNat∧c.toNat≤57)∨c.toNat=45:=by
 unfold itoa
 split
 ·refine⟨by simp,fun c hc=>?_⟩;rcases List.mem_cons.1 hc with rfl | hc
  ·exact .inr rfl
  ·exact .inl ((digits_ok _).2 c hc)
 ·exact⟨(digits_ok _).1,fun c hc=>.inl ((digits_ok _).2 c hc)⟩
theorem parse_itoa (n:Int) (h0: -1000000≤n) (h1:n≤1000000):parseIntB 64 (itoa n)=.ok n:=by
 unfold itoa
 split
 ·rename_i hn
  simp only[parseIntB];have e1:(45:UInt8).toNat=45:=rfl;rw[e1,if_pos (by omega)];unfold parseUintB;rw[if_neg (digits_ok _).1,parse_digits _ _ (by omega) (by omega)];simp only;rw[if_neg (by omega),if_neg (by omega)];simp only[if_true]
  congr 1;omega
 ·rename_i hn
  obtain⟨hne,hd⟩:=digits_ok n.toNat;have hp:=parse_digits (2 ^ 64 - 1) n.toNat (by omega) (by omega);cases hl:decDigits n.toNat with
  | nil=>exact absurd hl hne
  | cons c r=>
   rw[hl] at hd hp;have hc:=hd c (by simp);simp only[parseIntB];rw[if_neg (by omega)];unfold parseUintB;rw[if_neg (by simp),hp];simp only;rw[if_neg (by omega),if_neg (by omega),if_neg (by omega)]
   congr 1;omega
def typeN (n:Int):List UInt8:=
 if n=1 then [105,110,118,111,107,101] else if n=2 then [111,107] else if n=3 then [102,97,105,108] else if n=4 then [105,110,102,111] else []
def kindN (n:Int):List UInt8:=
 if n=1 then [114,101,97,100] else if n=2 then [119,114,105,116,101] else if n=3 then [115,119,97,112] else if n=4 then [97,100,100] else if n=5 then [103,101,116] else if n=6 then [112,117,116] else if n=7 then [100,114,111,112] else if n=8 then [104,97,115] else if n=9 then [112,117,115,104] else if n=10 then [112,111,112] else if n=11 then [108,111,99,107] else if n=12 then [117,110,108,111,99,107] else []
theorem typeN_ok {n:Int} (h0:1≤n) (h1:n≤4):typeN n≠ []∧∀c∈typeN n,97≤c.toNat∧c.toNat≤122:=by
 have:n=1∨n=2∨n=3∨n=4:=by omega
 rcases this with rfl | rfl | rfl | rfl<;>decide
theorem kindN_ok {n:Int} (h0:1≤n) (h1:n≤12):kindN n≠ []∧∀c∈kindN n,97≤c.toNat∧c.toNat≤122:=by
 have:n=1∨n=2∨n=3∨n=4∨n=5∨n=6∨n=7∨n=8∨n=9∨n=10∨n=11∨n=12:=by omega
 rcases this with rfl | rfl | rfl | rfl | rfl | rfl | rfl | rfl | rfl | rfl | rfl | rfl<;>decide
def wordsOf (e:Ev):List (List UInt8):= [itoa e.p,typeN e.t,kindN e.d,itoa e.k,itoa e.a,itoa e.b,itoa e.r]
def lineB (e:Ev):List UInt8:=Lib.join (wordsOf e) [32]
def textB (l:List Ev):List UInt8:=l.flatMap fun e=>lineB e++ [10]
def NamedE (e:Ev):Prop:=1≤e.t∧e.t≤4∧1≤e.d∧e.d≤12
theorem words_ok {e:Ev} (h:NamedE e):∀w∈wordsOf e,w≠ []∧∀c∈w,33≤c.toNat∧c.toNat < 128:=by
 have hi:∀n:Int,itoa n≠ []∧∀c∈itoa n,33≤c.toNat∧c.toNat < 128:=fun n=>⟨(itoa_ok n).1,fun c hc=>by have:=(itoa_ok n).2 c hc;omega⟩
 have ht:=typeN_ok h.1 h.2.1;have hk:=kindN_ok h.2.2.1 h.2.2.2;intro w hw;simp only[wordsOf,List.mem_cons,List.not_mem_nil,or_false] at hw;rcases hw with rfl | rfl | rfl | rfl | rfl | rfl | rfl
 ·exact hi _
 ·exact⟨ht.1,fun c hc=>by have:=ht.2 c hc;omega⟩
 ·exact⟨hk.1,fun c hc=>by have:=hk.2 c hc;omega⟩
 ·exact hi _
 ·exact hi _
 ·exact hi _
 ·exact hi _
theorem join_bytes (p:UInt8→Prop) (h32:p 32):∀(ws:List (List UInt8)),(∀w∈ws,∀c∈w,p c)→∀c∈Lib.join ws [32],p c
 | [],_=>by simp[Lib.join]
 | [w],h=>by
  have e:Lib.join [w] [32]=w:=by simp[Lib.join]
  rw[e];exact h w (by simp)
 | w::v::r,h=>by
  rw[join_two];intro c hc;rcases List.mem_append.1 hc with hc | hc
  ·exact h w (by simp) c hc
  ·rcases List.mem_cons.1 hc with rfl | hc
   ·exact h32
   ·exact join_bytes p h32 (v::r) (fun x hx=>h x (by simp[hx])) c hc
theorem line_bytes {e:Ev} (h:NamedE e):∀c∈lineB e,c.toNat≠10∧c.toNat < 128:=
 join_bytes (fun c=>c.toNat≠10∧c.toNat < 128) (by decide) _ fun w hw c hc=>by have:=(words_ok h w hw).2 c hc;omega
theorem fields_line {e:Ev} (h:NamedE e):Lib.goFieldsP blankP ⟨(lineB e).toArray⟩=(wordsOf e).map fun w=>⟨w.toArray⟩:=
 fields_words _ (fun w hw=>⟨(words_ok h w hw).1,fun c hc=>by have:=(words_ok h w hw).2 c hc;omega⟩) (fun c hc=>(line_bytes h c hc).2)
theorem index_line:∀(l r:List UInt8),(∀c∈l,c.toNat≠10)→Lib.index (l++10::r) [10]=l.length
 | [],r,_=>by simp[Lib.index,List.isPrefixOf]
 | c::l,r,h=>by
  have hc:(10==c)=false:=by
   have:=h c (by simp);rw[beq_eq_false_iff_ne];intro e;exact this (by rw[←e];rfl)
  rw[List.cons_append,Lib.index,index_line l r (fun x hx=>h x (by simp[hx]))];simp[List.isPrefixOf,hc]
theorem cut_line (l r:List UInt8) (h:∀c∈l,c.toNat≠10):Lib.cut (l++10::r) [10]=(l,r,true):=by
 unfold Lib.cut;rw[index_line l r h,if_pos (by omega)];simp
theorem cut_none:Lib.cut [] [10]=([],[],false):=rfl
end Go.Proofs.YtjpklmighoondaaGreatDoor
namespace Go.Proofs.YtjpklmighoondaaGreatDoor.Pg
open Go.RowKit Go.Lib
open Gn (ba ba_data ba_size)
end Go.Proofs.YtjpklmighoondaaGreatDoor.Pg
namespace Go.Proofs.YtjpklmighoondaaGreatDoor
theorem p1 {α:Type _} (l:List α) (i:Nat) (a:α):l.toArray.setIfInBounds i a=(l.set i a).toArray:=List.setIfInBounds_toArray l i a
theorem p2 {α:Type _} {x:α} {xs:List α} {a:α} :(x::xs).set 0 a=a::xs:=rfl
theorem p3 {α:Type _} {x:α} {xs:List α} {i:Nat} {a:α} :(x::xs).set (i+1) a=x::xs.set i a:=rfl
theorem p4 {α:Type _} {xs:List α} {i:Nat} (h:i < xs.toArray.size):xs.toArray[i]=xs[i]'(by simpa using h):=List.getElem_toArray h
theorem p5 {α:Type _} (a:α) (l:List α) (h:0 < (a::l).length):(a::l)[0]=a:=rfl
theorem p6 {α:Type _} (a:α) (l:List α) (i:Nat) (h:i+1 < (a::l).length):(a::l)[i+1]=l[i]'(Nat.lt_of_succ_lt_succ h):=rfl
theorem tkH {P:Program} {ops:Array Oper} {Q:Exit→Act→World→Prop} {md:Region.Mode} {S:World→Prop} (i:Nat) {oi:Oper} (v:Value) {fuel:Nat} {listed:Array Bool} {a:Act} {w:World} (hi:ops[i]?=some oi)
  (hy:∀w,S w→(execOp a.eval oi).run P w=.ok (.value v) w) (h:wpAnyH P md ops Q S fuel (listed.setIfInBounds i true) (a.put oi.dst v) w)
  (hs:Region.noSelect ops=true:=by kernel_rfl) (hf:Region.free md ops listed i=true:=by kernel_rfl) (hr:(Region.ready md ops listed).contains i=true:=by kernel_rfl)
  (hw:Region.wanted oi (yielded ops a.tmps)=true:=by rfl) (hQ:∀c a w,Q (.panic c) (a.put oi.dst v) w→Q (.panic c) a w:=by exact fun _ _ _ h=>h) (hS:S w:=by assumption):wpAnyH P md ops Q S (fuel+1) listed a w:=
 wpAnyH_take hi hs hf hr hQ (Or.inl ⟨hw,hy⟩) hS h
structure Smp where
 t:Int
 c:Int
def Smp.le (a b:Smp):Prop:=a.t < b.t∨(a.t=b.t∧a.c≤b.c)
def Smp.lt (a b:Smp):Prop:=a.t < b.t∨(a.t=b.t∧a.c < b.c)
instance (a b:Smp):Decidable (a.le b):=by unfold Smp.le;infer_instance
instance (a b:Smp):Decidable (a.lt b):=by unfold Smp.lt;infer_instance
structure Hd where
 s:Smp
 v:Int
structure Ltr where
 c:Int
 key:Int
 rd:Int
 tells:Bool
 h:Hd
structure Ml where
 fr:Int
 tz:Int
 l:Ltr
structure Cl where
 busy:Bool
 gone:Bool
 write:Bool
 tells:Bool
 key:Int
 value:Int
 rd:Int
 kept:Hd
 cnt:List Int
structure Sn where
 proc:Int
 typ:Int
 key:Int
 write:Bool
 a:Int
 res:Int
 at_:Smp
structure Sto where
 n:Nat
 k:Nat
 ask:Nat
 tell:Nat
 back:Bool
 links:Int→Int→Bool
 mails:List Ml
 has:Int→Int→Hd
 cl:Int→Cl
 seen:List Sn
def updC (f:Int→Cl) (c:Int) (x:Cl):Int→Cl:=fun d=>if d=c then x else f d
def hd0:Hd:=⟨⟨0,-1⟩,0⟩
def hdN:Hd:=⟨⟨-1,-1⟩,0⟩
def zeroS:Smp:=⟨0,0⟩
def sendL (l:List Ml) (m:Ml):List Ml:=if l.length < 500 then l++ [m] else l
def sendAll (l:List Ml) (n:Nat) (c:Int) (x:Cl):List Ml:=(List.range n).foldl (fun l (j:Nat)=>sendL l ⟨n+c,j,⟨c,x.key,x.rd,x.tells,x.kept⟩⟩) l
def roundC (x:Cl):Cl:= {x with rd:=x.rd+1,cnt:= []}
def roundS (S:Sto) (c:Int) (x:Cl):Sto:= {S with cl:=updC S.cl c (roundC x),mails:=sendAll S.mails S.n c (roundC x)}
def snOf (c:Int) (x:Cl) (typ res:Int) (at_:Smp):Sn:=⟨c,typ,x.key,x.write,if x.write then x.value else 0,res,at_⟩
def beginC (x:Cl) (key:Int) (write:Bool) (value:Int):Cl:= {x with busy:=true,write:=write,tells:=false,key:=key,value:=value,kept:=hdN}
def beginS (S:Sto) (c key:Int) (write:Bool) (value:Int):Sto:=
 roundS {S with seen:=S.seen++ [snOf c (beginC (S.cl c) key write value) 1 0 zeroS]} c (beginC (S.cl c) key write value)
def giveS (S:Sto) (c:Int):Sto:= {S with seen:=S.seen++ [snOf c (S.cl c) 4 0 zeroS],cl:=updC S.cl c {S.cl c with busy:=false,gone:=true}}
def nodeH (own:Hd) (l:Ltr):Hd:=if l.tells=true∧own.s.lt l.h.s then l.h else own
def updH (f:Int→Int→Hd) (j key:Int) (h:Hd):Int→Int→Hd:=fun a b=>if a=j∧b=key then h else f a b
def nodeS (S:Sto) (m:Ml):Sto:=
 {S with has:=updH S.has m.tz m.l.key (nodeH (S.has m.tz m.l.key) m.l),mails:=sendL S.mails ⟨m.tz,m.fr,{m.l with h:=nodeH (S.has m.tz m.l.key) m.l}⟩}
def countC (x:Cl) (node:Int) (h:Hd):Cl:= {x with cnt:=x.cnt++ [node],kept:=if x.tells=false∧x.kept.s.lt h.s then h else x.kept}
def tellC (c:Int) (x:Cl):Cl:= {x with kept:=if x.write then⟨⟨x.kept.s.t+1,c⟩,x.value⟩ else x.kept,tells:=true}
def doneS (S:Sto) (c:Int) (x:Cl):Sto:= {S with seen:=S.seen++ [snOf c x 2 (if x.write then 0 else x.kept.v) x.kept.s],cl:=updC S.cl c {x with busy:=false}}
def hearS (S:Sto) (c node:Int) (l:Ltr):Sto:=
 let x:=S.cl c
 if x.busy=true∧l.rd=x.rd∧node∉x.cnt then
  let y:=countC x node l.h
  if y.cnt.length < (if x.tells then S.tell else S.ask) then {S with cl:=updC S.cl c y}
  else if x.tells=false∧(x.write=true∨S.back=true) then roundS S c (tellC c y)
  else doneS S c y
 else S
def takeS (S:Sto) (m:Ml):Sto:=if m.tz < S.n then nodeS S m else hearS S (m.tz - S.n) m.fr m.l
open Classical in
def cl0:Cl:=⟨false,false,false,false,0,0,0,⟨⟨0,0⟩,0⟩,[]⟩
def sto0 (n k ask tell:Nat) (back:Bool):Sto:=⟨n,k,ask,tell,back,fun _ _=>true,[],fun _ _=>hd0,fun _=>cl0,[]⟩
structure Opn where
 p:Int
 k:Int
 d:Int
 a:Int
 b:Int
 r:Int
 c:Int
 e:Int
def beforeB (x y:Opn):Bool:=decide (0≤x.e)&&decide (x.e < y.c)
def hasB (x:Opn) (t:Int):Bool:=x.c==t||x.e==t
def shareB (x y:Opn):Bool:=hasB x y.c||(y.e != -1&&hasB x y.e)
def clashB (x y:Opn):Bool:=x.p==y.p&& !beforeB x y
def rangeB (x:Opn):Bool:=inB x.p x.k x.a x.b x.r&&numB x.c&&numB x.e
def lastOk (l:List Opn) (x:Opn):Bool:=match l.getLast? with
 | none=>true
 | some y=>decide (y.c < x.c)
def orderB (l:List Opn) (x:Opn):Bool:=decide (0≤x.c)&&lastOk l x&&(if x.e= -1 then x.r==0 else decide (x.c < x.e))
def opFaultN (l:List Opn) (x:Opn):Int:=
 if rangeB x then (if kindB x.d then (if orderB l x then (if l.any (fun y=>shareB y x) then 9 else if l.any (fun y=>clashB y x) then 6 else 0) else 10) else 1) else 2
def Told (l:List Opn) (n:Int):Prop:=
 (40 < l.length∧n=4)∨(l.length≤40∧(∀j,(h:j < l.length)→opFaultN (l.take j) l[j]=0)∧n=0)∨
 (l.length≤40∧∃k,∃h:k < l.length,(∀j,(hj:j < k)→opFaultN (l.take j) (l[j]'(Nat.lt_trans hj h))=0)∧opFaultN (l.take k) l[k]≠0∧n=opFaultN (l.take k) l[k])
theorem told_one {l:List Opn} {n m:Int} (h1:Told l n) (h2:Told l m):n=m:=by
 rcases h1 with ⟨a,rfl⟩ | ⟨a,g,rfl⟩ | ⟨a,k,hk,g,hne,rfl⟩
 ·rcases h2 with ⟨_,rfl⟩ | ⟨b,_⟩ | ⟨b,_⟩
  ·rfl
  ·omega
  ·omega
 ·rcases h2 with ⟨b,_⟩ | ⟨_,_,rfl⟩ | ⟨_,k,hk,_,hne,rfl⟩
  ·omega
  ·rfl
  ·exact absurd (g k hk) hne
 ·rcases h2 with ⟨b,_⟩ | ⟨_,g',rfl⟩ | ⟨_,k',hk',g',hne',rfl⟩
  ·omega
  ·exact absurd (g' k hk) hne
  ·rcases Nat.lt_trichotomy k k' with h | h | h
   ·exact absurd (g' k h) hne
   ·subst h;rfl
   ·exact absurd (g k' h) hne'
end Go.Proofs.YtjpklmighoondaaGreatDoor
