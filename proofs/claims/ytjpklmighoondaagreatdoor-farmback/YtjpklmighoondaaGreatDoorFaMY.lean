/-
  A plan that is tried, in memory: its own block, the store, the generator, the tape.
  A plan that is tried, walked: client, message, cut.
-/
import Derived.Test.YtjpklmighoondaaGreatDoorGpRY
import Derived.Test.YtjpklmighoondaaGreatDoorSwOY
import Derived.Test.YtjpklmighoondaaGreatDoorSwHY
import Derived.Test.YtjpklmighoondaaGreatDoorSwLY
import Derived.Test.YtjpklmighoondaaGreatDoorNxCY
import Derived.Test.YtjpklmighoondaaGreatDoorFieldsQY
import Derived.Test.YtjpklmighoondaaGreatDoorSwMY
import Derived.Deep.RegionHeld3
set_option maxRecDepth 100000
namespace Go.Proofs.YtjpklmighoondaaGreatDoor.Fa
open Go.RowKit
theorem tgD_tagD (o:Option Obj):Gn.tgD o=St.tagD o:=by cases o with
 | none=>rfl
 | some x=>cases x<;>rfl
structure TrC (W : World) (Bt : Nat) (P : St.Pst) (K : St.StK) (v : Value) (ti : ByteArray) (bud : Int) (begun : Nat) (over : Bool) : Prop where
 c0:W.cell? ⟨Bt,0,none⟩=some (.int .i64 (P.n:Int))
 c1:W.cell? ⟨Bt,1,none⟩=some (.int .i64 (P.k:Int))
 c5:W.cell? ⟨Bt,5,none⟩=some (.string ti)
 c7:W.cell? ⟨Bt,7,none⟩=some (.int .i64 bud)
 c8:W.cell? ⟨Bt,8,none⟩=some (.pointer (some ⟨K.B,0,none⟩))
 c9:W.cell? ⟨Bt,9,none⟩=some v
 c12:W.cell? ⟨Bt,12,none⟩=some (.int .i64 (begun:Int))
 c13:W.cell? ⟨Bt,13,none⟩=some (.bool over)
 f12:W.frozen? ⟨Bt,12,none⟩=false
 f13:W.frozen? ⟨Bt,13,none⟩=false
section
variable {w0 W W' : World} {Bt : Nat} {P : St.Pst} {K K' : St.StK} {v : Value} {bs bs' : List Nat} {ti : ByteArray} {bud : Int} {begun : Nat} {over : Bool} {T : Trl}
theorem TrC.oth (h:TrC W Bt P K v ti bud begun over) (ho:∀p:Addr,p.block=Bt→p≠⟨Bt,11,none⟩→W'.cell? p=W.cell? p∧W'.frozen? p=W.frozen? p):TrC W' Bt P K v ti bud begun over:=by
 have hc:=fun i (hi:i≠11)=>ho ⟨Bt,i,none⟩ rfl (fun e=>hi (by injection e))
 exact⟨(hc 0 (by decide)).1.trans h.c0,(hc 1 (by decide)).1.trans h.c1,(hc 5 (by decide)).1.trans h.c5,(hc 7 (by decide)).1.trans h.c7,(hc 8 (by decide)).1.trans h.c8,(hc 9 (by decide)).1.trans h.c9,(hc 12 (by decide)).1.trans h.c12,(hc 13 (by decide)).1.trans h.c13,(hc 12 (by decide)).2.trans h.f12,(hc 13 (by decide)).2.trans h.f13⟩
theorem TrC.block (h:TrC W Bt P K v ti bud begun over) (hb:W'.heap[Bt]?=W.heap[Bt]?):TrC W' Bt P K v ti bud begun over:=
 h.oth fun p hp _=>⟨World.cell?_of_block (by rw[hp];exact hb),World.frozen?_of_block (by rw[hp];exact hb)⟩
structure TrW (w0 W : World) (Bt : Nat) (K : St.StK) (v : Value) (bs : List Nat) (ti : ByteArray) (bud : Int) (T : Trl) : Prop where
 st:St.StoP w0 W K T.p
 tp:Gn.TpAt W w0.heap.size Bt 10 T.t
 gn:Gn.GAt 20 W w0.heap.size v T.g bs
 Bn:Bt∉bs
 c:TrC W Bt T.p K v ti bud T.begun T.over
 dj:∀b,b=Bt∨b∈bs→¬K.own T.p.k b∧¬St.LTg W b
theorem TrW.lt (h:TrW w0 W Bt K v bs ti bud T):Bt < W.heap.size:=h.tp.lt
theorem TrW.lo (h:TrW w0 W Bt K v bs ti bud T) {b:Nat} (hb:b∈Bt::bs):w0.heap.size≤b∧b < W.heap.size:=by
 rcases List.mem_cons.1 hb with rfl | hb
 ·exact⟨h.tp.lo,h.lt⟩
 ·exact h.gn.in_ b hb
theorem TrW.fr (h:TrW w0 W Bt K v bs ti bud T) (hf:Gn.Fr (Bt::bs) W W') {g:Gn.Gt} {t:Gn.Tp} (ht:Gn.TpAt W' w0.heap.size Bt 10 t) (hg:Gn.GAt 20 W' w0.heap.size v g bs') (hs:∀b∈bs',b∈bs) (hc:TrC W' Bt T.p K v ti bud begun over):
  TrW w0 W' Bt K v bs' ti bud {T with g:=g,t:=t,begun:=begun,over:=over} :=by
 have hB:Below w0.heap.size w0 W':=h.st.bel.trans (hf.below (base:=w0.heap.size) h.st.bel.size fun x hx=>(h.lo hx).1);refine⟨h.st.keep hB (fun b hb=>hf.block b (h.st.own_lt hb).2 fun hx=>(h.dj b (List.mem_cons.1 hx)).1 hb) (fun b hb=>hf.block b hb.lt fun hx=>(h.dj b (List.mem_cons.1 hx)).2 hb),ht,hg,fun e=>h.Bn (hs _ e),hc,fun b hb=>?_⟩;have hb':b=Bt∨b∈bs:=hb.imp id (hs b);obtain⟨d1,d2⟩:=h.dj b hb';refine⟨d1,fun hl=>d2 ?_⟩;have e:=hf.tag b (h.lo (List.mem_cons.2 hb')).2;rw[tgD_tagD,tgD_tagD] at e;unfold St.LTg at hl ⊢;rw[←e];exact hl
theorem TrW.next (h:TrW w0 W Bt K v bs ti bud T) {e:Ending} (hN:Gn.NxTold 20 w0.heap.size Bt 10 T.t W v T.g bs e W'):∃bs',TrW w0 W' Bt K v bs' ti bud T.asked∧∀b∈bs',b∈bs:=by
 obtain⟨bs',hg,hs⟩:=hN.gen;exact⟨bs',h.fr (begun:=T.begun) (over:=T.over) hN.fr hN.tp hg hs (h.c.oth hN.oth),hs⟩
theorem TrW.turn (h:TrW w0 W Bt K v bs ti bud T) (n:Int) (k:Nat):TrW w0 (Gn.tpTurn (W.drewN k) Bt 10 T.t n) Bt K v bs ti bud (T.on n):=by
 have hf:=Gn.Fr.turn W Bt 10 T.t n k;have hf2:Gn.Fr (Bt::bs) W (Gn.tpTurn (W.drewN k) Bt 10 T.t n):=hf.more fun x hx=>.inl (by simp at hx;simp[hx])
 refine h.fr (begun:=T.begun) (over:=T.over) hf2 (h.tp.turn n k) (h.gn.low (fun b hb=>hf.block b (h.gn.in_ b hb).2 fun hx=>h.Bn (by simp at hx;rw[←hx];exact hb)) hf.size) (fun _ hb=>hb) (h.c.oth fun p hp hne=>?_);obtain⟨e1,e2⟩:=Gn.tpTurn_oth (W.drewN k) Bt 10 T.t n p hne;exact⟨e1.trans rfl,e2.trans rfl⟩
theorem TrW.set13 (h:TrW w0 W Bt K v bs ti bud T) (o:Bool):TrW w0 (W.setCell ⟨Bt,13,none⟩ (.bool o)) Bt K v bs ti bud {T with over:=o} :=by
 have hf:Gn.Fr (Bt::bs) W (W.setCell ⟨Bt,13,none⟩ (.bool o)):=Gn.Fr.set W _ _ (by simp);have hc:∀i,i≠13→(W.setCell ⟨Bt,13,none⟩ (.bool o)).cell? ⟨Bt,i,none⟩=W.cell? ⟨Bt,i,none⟩:=fun i hi=>World.cell?_setCell_other _ _ _ _ fun e=>hi (by injection e with _ e;exact e.symm)
 have hz:∀i,(W.setCell ⟨Bt,13,none⟩ (.bool o)).frozen? ⟨Bt,i,none⟩=W.frozen? ⟨Bt,i,none⟩:=fun i=>Gn.frozen_setCell _ _ _ _
 have hB:∀b∈bs,(W.setCell ⟨Bt,13,none⟩ (.bool o)).heap[b]?=W.heap[b]?:=fun b hb=>Below.heap_setCell W _ _ b fun e=>h.Bn (by have e':b=Bt:=e;rw[←e'];exact hb)
 refine h.fr (begun:=T.begun) (over:=o) hf ?_ (h.gn.low hB hf.size) (fun _ hb=>hb) ⟨(hc 0 (by decide)).trans h.c.c0,(hc 1 (by decide)).trans h.c.c1,(hc 5 (by decide)).trans h.c.c5,(hc 7 (by decide)).trans h.c.c7,(hc 8 (by decide)).trans h.c.c8,(hc 9 (by decide)).trans h.c.c9,(hc 12 (by decide)).trans h.c.c12,World.cell?_setCell_same' _ _ _ (by rw[h.c.c13];rfl),(hz 12).trans h.c.f12,(hz 13).trans h.c.f13⟩;obtain⟨⟨a,cap,r0,r1,r2⟩,r3,r4,r5⟩:=h.tp;refine⟨⟨a,cap,(hc 10 (by decide)).trans r0,r1,r2.imp id fun⟨b,off,e,hb,hx⟩=>⟨b,off,e,hb,fun i hi=>?_⟩⟩,(hc 11 (by decide)).trans r3,(hz 11).trans r4,r5⟩;exact(World.cell?_of_block (a:=⟨b,off+i,none⟩) (Below.heap_setCell W _ _ b (by show b≠Bt;omega))).trans (hx i hi)
theorem TrW.set12 (h:TrW w0 W Bt K v bs ti bud T) (m:Nat):TrW w0 (W.setCell ⟨Bt,12,none⟩ (.int .i64 (m:Int))) Bt K v bs ti bud {T with begun:=m} :=by
 have hf:Gn.Fr (Bt::bs) W (W.setCell ⟨Bt,12,none⟩ (.int .i64 (m:Int))):=Gn.Fr.set W _ _ (by simp);have hc:∀i,i≠12→(W.setCell ⟨Bt,12,none⟩ (.int .i64 (m:Int))).cell? ⟨Bt,i,none⟩=W.cell? ⟨Bt,i,none⟩:=fun i hi=>World.cell?_setCell_other _ _ _ _ fun e=>hi (by injection e with _ e;exact e.symm)
 have hz:∀i,(W.setCell ⟨Bt,12,none⟩ (.int .i64 (m:Int))).frozen? ⟨Bt,i,none⟩=W.frozen? ⟨Bt,i,none⟩:=fun i=>Gn.frozen_setCell _ _ _ _
 have hB:∀b∈bs,(W.setCell ⟨Bt,12,none⟩ (.int .i64 (m:Int))).heap[b]?=W.heap[b]?:=fun b hb=>Below.heap_setCell W _ _ b fun e=>h.Bn (by have e':b=Bt:=e;rw[←e'];exact hb)
 refine h.fr (begun:=m) (over:=T.over) hf ?_ (h.gn.low hB hf.size) (fun _ hb=>hb) ⟨(hc 0 (by decide)).trans h.c.c0,(hc 1 (by decide)).trans h.c.c1,(hc 5 (by decide)).trans h.c.c5,(hc 7 (by decide)).trans h.c.c7,(hc 8 (by decide)).trans h.c.c8,(hc 9 (by decide)).trans h.c.c9,World.cell?_setCell_same' _ _ _ (by rw[h.c.c12];rfl),(hc 13 (by decide)).trans h.c.c13,(hz 12).trans h.c.f12,(hz 13).trans h.c.f13⟩;obtain⟨⟨a,cap,r0,r1,r2⟩,r3,r4,r5⟩:=h.tp;refine⟨⟨a,cap,(hc 10 (by decide)).trans r0,r1,r2.imp id fun⟨b,off,e,hb,hx⟩=>⟨b,off,e,hb,fun i hi=>?_⟩⟩,(hc 11 (by decide)).trans r3,(hz 11).trans r4,r5⟩;exact(World.cell?_of_block (a:=⟨b,off+i,none⟩) (Below.heap_setCell W _ _ b (by show b≠Bt;omega))).trans (hx i hi)
theorem tp_keep {base B o:Nat} {t:Gn.Tp} (h:Gn.TpAt W base B o t) (hB:W'.heap[B]?=W.heap[B]?) (hl:∀b,b < base→W'.heap[b]?=W.heap[b]?):Gn.TpAt W' base B o t:=by
 obtain⟨⟨a,cap,r0,r1,r2⟩,r3,r4,r5⟩:=h;exact⟨⟨a,cap,(World.cell?_of_block (a:=⟨B,o,none⟩) hB).trans r0,r1,r2.imp id fun⟨b,off,e,hb,hx⟩=>⟨b,off,e,hb,fun i hi=>(World.cell?_of_block (a:=⟨b,off+i,none⟩) (hl b hb)).trans (hx i hi)⟩⟩,(World.cell?_of_block (a:=⟨B,o+1,none⟩) hB).trans r3,(World.frozen?_of_block (a:=⟨B,o+1,none⟩) hB).trans r4,r5⟩
theorem TrW.store (h:TrW w0 W Bt K v bs ti bud T) {P':St.Pst} (s':Sto) (ht:St.StTold w0 K T.p W P' W') (hk:P'.k=T.p.k) (hn:P'.n=T.p.n):∃K',TrW w0 W' Bt K' v bs ti bud {T with p:=P',s:=s'} ∧K'.B=K.B∧(∀b,b < W.heap.size→¬K.own T.p.k b→W'.heap[b]?=W.heap[b]?)∧W.heap.size≤W'.heap.size:=by
 obtain⟨K',hp,hf⟩:=ht;have hsame:∀b,b=Bt∨b∈bs→W'.heap[b]?=W.heap[b]?:=fun b hb=>hf.rest b (h.lo (List.mem_cons.2 hb)).2 (h.dj b hb).1
 have hlow:∀b,b < w0.heap.size→W'.heap[b]?=W.heap[b]?:=fun b hb=>hf.rest b (Nat.lt_of_lt_of_le hb h.st.bel.size) fun ho=>by have:=(h.st.own_lt ho).1;omega
 have hc:=h.c.block (hsame Bt (.inl rfl));refine⟨K',⟨hp,tp_keep h.tp (hsame Bt (.inl rfl)) hlow,h.gn.low (fun b hb=>hsame b (.inr hb)) hf.size,h.Bn,?_,fun b hb=>⟨fun ho=>?_,fun hl=>?_⟩⟩,hf.B.1,hf.rest,hf.size⟩
 ·exact⟨by rw[hn];exact hc.c0,by rw[hk];exact hc.c1,hc.c5,hc.c7,by rw[hf.B.1];exact hc.c8,hc.c9,hc.c12,hc.c13,hc.f12,hc.f13⟩
 ·rw[hk] at ho;rcases hf.own b ho with h1 | h1
  ·exact(h.dj b hb).1 h1
  ·have:=(h.lo (List.mem_cons.2 hb)).2;omega
 ·refine(h.dj b hb).2 ?_;unfold St.LTg at hl ⊢;rw[←hsame b hb];exact hl
theorem TrW.below (h:TrW w0 W Bt K v bs ti bud T) (hb:Below W.heap.size W W'):TrW w0 W' Bt K v bs ti bud T:=by
 have hsame:∀b,b=Bt∨b∈bs→W'.heap[b]?=W.heap[b]?:=fun b hb'=>hb.block b (h.lo (List.mem_cons.2 hb')).2
 refine⟨h.st.below hb,tp_keep h.tp (hsame Bt (.inl rfl)) (fun b hb'=>hb.block b (Nat.lt_of_lt_of_le hb' h.st.bel.size)),h.gn.low (fun b hb'=>hsame b (.inr hb')) hb.size,h.Bn,h.c.block (hsame Bt (.inl rfl)),fun b hb'=>⟨(h.dj b hb').1,fun hl=>(h.dj b hb').2 ?_⟩⟩;unfold St.LTg at hl ⊢;rw[←hsame b hb'];exact hl
theorem TrW.other (h:TrW w0 W Bt K v bs ti bud T) {G:Nat} (hb:Below w0.heap.size w0 W') (hz:W.heap.size≤W'.heap.size) (hs:∀b,b < W.heap.size→b≠G→W'.heap[b]?=W.heap[b]?) (hG:w0.heap.size≤G) (h1:¬K.own T.p.k G) (h2:G≠Bt∧G∉bs) (h3:¬St.LTg W G):TrW w0 W' Bt K v bs ti bud T:=by
 have hsame:∀b,b=Bt∨b∈bs→W'.heap[b]?=W.heap[b]?:=fun b hb'=>hs b (h.lo (List.mem_cons.2 hb')).2 fun e=>by
  rcases hb' with h' | h'
  ·exact h2.1 (e▸h')
  ·exact h2.2 (e▸h')
 refine⟨h.st.keep hb (fun b hb'=>hs b (h.st.own_lt hb').2 fun e=>h1 (e▸hb')) (fun b hb'=>hs b hb'.lt fun e=>h3 (e▸hb')),tp_keep h.tp (hsame Bt (.inl rfl)) (fun b hb'=>hs b (Nat.lt_of_lt_of_le hb' h.st.bel.size) (by omega)),h.gn.low (fun b hb'=>hsame b (.inr hb')) hz,h.Bn,h.c.block (hsame Bt (.inl rfl)),fun b hb'=>⟨(h.dj b hb').1,fun hl=>(h.dj b hb').2 ?_⟩⟩;unfold St.LTg at hl ⊢;rw[←hsame b hb'];exact hl
theorem TrW.res (h:TrW w0 W Bt K v bs ti bud T) {G t:Nat} {q:Bool} {k y:Int} {cs:Array Value} (hc:W.heap[G]?=some (.cells cs t (0,0))) (ht:t≠266∧t≠4) (hG:w0.heap.size≤G) (h1:¬K.own T.p.k G) (h2:G≠Bt∧G∉bs):TrW w0 (Gn.set3 W G (.bool q) (.int .i64 k) (.int .i64 y)) Bt K v bs ti bud T:=by
 have hf:=Gn.fr_set3' W G (.bool q) (.int .i64 k) (.int .i64 y);refine h.other (G:=G) (h.st.bel.trans (hf.below (base:=w0.heap.size) h.st.bel.size (fun x hx=>by simp at hx;omega))) hf.size (fun b hb hn=>hf.block b hb (by simp[hn])) hG h1 h2 fun hl=>?_
 unfold St.LTg at hl;rw[hc] at hl;rcases hl with hl | hl
 ·exact ht.1 (by have:t+1=267:=hl;omega)
 ·exact ht.2 (by have:t+1=5:=hl;omega)
end
end Go.Proofs.YtjpklmighoondaaGreatDoor.Fa
namespace Go.Proofs.YtjpklmighoondaaGreatDoor.Fa
open Go.RowKit
section
variable {w0 W W' : World} {Bt : Nat} {K : St.StK} {v : Value} {bs : List Nat} {ti : ByteArray} {bud : Int} {T : Trl}
theorem waitP_any {P:St.Pst} (h:St.StoP w0 W K P):Calls Tryz.prog 55 #[.pointer (some ⟨K.B,0,none⟩)] W fun e w'=>e=.returned (.int .i64 (P.mails.length:Int))∧w'=W:=by
 have HN:=hideIt (St.pwait_any _ _ _ _ _ _ _ h.net);clear h;go_enter Tryz.func55,Tryz.ntmps55
 go_wp2_with fail
 refine HN.out.mono ?_;rintro e w' ⟨rfl,rfl⟩;go_wp2;go_ret;exact⟨rfl,rfl⟩
theorem TrW.tape (h:TrW w0 W Bt K v bs ti bud T) (hu:T.t.u≤1000000000) (n:Int) (hn:n < 9223372036854775808):Calls Tryz.prog 46 #[.pointer (some ⟨Bt,10,none⟩),.int .i64 n] W fun e w'=>e=.returned (.int .i64 (T.t.below n))∧TrW w0 w' Bt K v bs ti bud (T.on n):=
 (Gn.tBelow_any w0.heap.size Bt 10 n T.t W h.tp hu hn).mono fun e w' ⟨h1,k,h2⟩=>⟨h1,by rw[h2];exact h.turn n k⟩
set_option maxHeartbeats 4000000 in
theorem client_any (h:TrW w0 W Bt K v bs ti bud T) (hu:T.t.u≤1000000000) (hk:T.p.k≤8):Calls Tryz.prog 48 #[.pointer (some ⟨Bt,0,none⟩)] W fun e w'=>e=.returned (.int .i64 (T.t.below T.p.k))∧TrW w0 w' Bt K v bs ti bud (T.on T.p.k):=by
 have HT:Hid (∀Z,Below W.heap.size W Z→Calls Tryz.prog 46 #[.pointer (some ⟨Bt,10,none⟩),.int .i64 (T.p.k:Int)] Z fun e w'=>e=.returned (.int .i64 (T.t.below T.p.k))∧TrW w0 w' Bt K v bs ti bud (T.on T.p.k)):=fun Z hZ=>(h.below hZ).tape hu T.p.k (by omega)
 have hc:=h.c.c1;have HC:Hid (∀Z,TrW w0 Z Bt K v bs ti bud (T.on T.p.k)→Z.cell? ⟨Bt,1,none⟩=some (.int .i64 (T.p.k:Int))):=fun Z hZ=>hZ.c.c1
 clear h hu hk;go_enter Tryz.func48,Tryz.ntmps48
 go_upto_region 1 with fail
 refine wp_region_held_drew (S:=fun Z=>Z.cell? ⟨Bt,1,none⟩=some (.int .i64 (T.p.k:Int))) (by kernel_rfl) hc (fun hHeld=>?_);refine tkH 0 ?_ rfl ?_ ?_;rotate_left 1
 ·intro wz hwz;go_simp;all_goals with_reducible rfl
 simp only[Act.put,p1,p2,p3,p4,p5];refine tkH 1 ?_ rfl ?_ ?_;rotate_left 1
 ·intro wz hwz;go_simp;all_goals with_reducible rfl
 simp only[Act.put,p1,p2,p3,p4,p5,p6];refine tkH 2 ?_ rfl ?_ ?_;rotate_left 1
 ·intro wz hwz;go_simp;all_goals with_reducible rfl
 simp only[Act.put,p1,p2,p3,p4,p5,p6];refine tkH 3 ?_ rfl ?_ ?_;rotate_left 1
 ·intro wz hwz;go_simp;all_goals with_reducible rfl
 simp only[Act.put,p1,p2,p3,p4,p5,p6];refine tkH 4 ?_ rfl ?_ ?_;rotate_left 1
 ·intro wz hwz;go_simp;all_goals with_reducible rfl
 simp only[Act.put,p1,p2,p3,p4,p5,p6];refine tkH 5 ?_ rfl ?_ ?_;rotate_left 1
 ·intro wz hwz;go_simp;all_goals with_reducible rfl
 simp only[Act.put,p1,p2,p3,p4,p5,p6];refine tkH 6 ?_ rfl ?_ ?_;rotate_left 1
 ·intro wz hwz;go_simp;all_goals with_reducible rfl
 simp only[Act.put,p1,p2,p3,p4,p5,p6];refine tkH 7 ?_ rfl ?_ ?_;rotate_left 1
 ·intro wz hwz;go_simp;all_goals with_reducible rfl
 simp only[Act.put,p1,p2,p3,p4,p5,p6];refine tkH 8 ?_ rfl ?_ ?_;rotate_left 1
 ·intro wz hwz;go_simp;all_goals with_reducible rfl
 simp only[Act.put,p1,p2,p3,p4,p5,p6];refine wpAnyH_ready (rs:= [9]) (by kernel_rfl) (by simp) (AllReadyH.cons rfl (fun K hK=>?_) AllReadyH.nil);go_simp;refine(HT.out W.drew (Below.refl _ _).drew).mono ?_;rintro x w1 ⟨rfl,h1⟩;have H1:=hideIt h1;have hc1:=HC.out _ h1;clear h1;refine hK.out _ _ ?_ (fun hHeld=>?_)
 ·exact hc1
 clear hK K;refine tkH 10 ?_ rfl ?_ ?_;rotate_left 1
 ·intro wz hwz;go_simp;all_goals with_reducible rfl
 simp only[Act.put,p1,p2,p3,p4,p5,p6];refine wpAnyH_done (by kernel_rfl) ?_ _;go_wp2;go_ret;exact⟨rfl,H1.out⟩
set_option maxHeartbeats 4000000 in
theorem message_any (h:TrW w0 W Bt K v bs ti bud T) (hu:T.t.u≤1000000000) (hm:T.p.mails.length≤500):Calls Tryz.prog 50 #[.pointer (some ⟨Bt,0,none⟩)] W fun e w'=>e=.returned (.int .i64 (T.t.below T.p.mails.length))∧TrW w0 w' Bt K v bs ti bud (T.on T.p.mails.length):=by
 have HT:Hid (∀Z,Below W.heap.size W Z→Calls Tryz.prog 46 #[.pointer (some ⟨Bt,10,none⟩),.int .i64 (T.p.mails.length:Int)] Z fun e w'=>e=.returned (.int .i64 (T.t.below T.p.mails.length))∧TrW w0 w' Bt K v bs ti bud (T.on T.p.mails.length)):=fun Z hZ=>(h.below hZ).tape hu T.p.mails.length (by omega)
 have HW:Hid (∀Z,Below W.heap.size W Z→Calls Tryz.prog 55 #[.pointer (some ⟨K.B,0,none⟩)] Z fun e w'=>e=.returned (.int .i64 (T.p.mails.length:Int))∧w'=Z):=fun Z hZ=>waitP_any (h.below hZ).st
 have hc:=h.c.c8;have HC:Hid (∀Z,TrW w0 Z Bt K v bs ti bud (T.on T.p.mails.length)→Z.cell? ⟨Bt,8,none⟩=some (.pointer (some ⟨K.B,0,none⟩))):=fun Z hZ=>hZ.c.c8
 clear h hu hm;go_enter Tryz.func50,Tryz.ntmps50
 go_upto_region 1 with fail
 refine wp_region_held_drew (S:=fun Z=>Z.cell? ⟨Bt,8,none⟩=some (.pointer (some ⟨K.B,0,none⟩))) (by kernel_rfl) hc (fun hHeld=>?_);refine tkH 0 ?_ rfl ?_ ?_;rotate_left 1
 ·intro wz hwz;go_simp;all_goals with_reducible rfl
 simp only[Act.put,p1,p2,p3,p4,p5];refine tkH 1 ?_ rfl ?_ ?_;rotate_left 1
 ·intro wz hwz;go_simp;all_goals with_reducible rfl
 simp only[Act.put,p1,p2,p3,p4,p5,p6];refine tkH 2 ?_ rfl ?_ ?_;rotate_left 1
 ·intro wz hwz;go_simp;all_goals with_reducible rfl
 simp only[Act.put,p1,p2,p3,p4,p5,p6];refine tkH 3 ?_ rfl ?_ ?_;rotate_left 1
 ·intro wz hwz;go_simp;all_goals with_reducible rfl
 simp only[Act.put,p1,p2,p3,p4,p5,p6];refine tkH 4 ?_ rfl ?_ ?_;rotate_left 1
 ·intro wz hwz;go_simp;all_goals with_reducible rfl
 simp only[Act.put,p1,p2,p3,p4,p5,p6];refine tkH 5 ?_ rfl ?_ ?_;rotate_left 1
 ·intro wz hwz;go_simp;all_goals with_reducible rfl
 simp only[Act.put,p1,p2,p3,p4,p5,p6];refine tkH 6 ?_ rfl ?_ ?_;rotate_left 1
 ·intro wz hwz;go_simp;all_goals with_reducible rfl
 simp only[Act.put,p1,p2,p3,p4,p5,p6];refine wpAnyH_ready (rs:= [7]) (by kernel_rfl) (by simp) (AllReadyH.cons rfl (fun K hK=>?_) AllReadyH.nil);go_simp;refine(HW.out W.drew (Below.refl _ _).drew).mono ?_;rintro x w1 ⟨rfl,e1⟩;subst e1;refine hK.out _ _ ?_ (fun hHeld=>?_)
 ·exact hc
 clear hK K;refine wpAnyH_ready (rs:= [8]) (by kernel_rfl) (by simp) (AllReadyH.cons rfl (fun K hK=>?_) AllReadyH.nil);go_simp;refine(HT.out W.drew (Below.refl _ _).drew).mono ?_;rintro x w2 ⟨rfl,h1⟩;have H1:=hideIt h1;have hc1:=HC.out _ h1;clear h1;refine hK.out _ _ ?_ (fun hHeld=>?_)
 ·exact hc1
 clear hK K;refine tkH 9 ?_ rfl ?_ ?_;rotate_left 1
 ·intro wz hwz;go_simp;all_goals with_reducible rfl
 simp only[Act.put,p1,p2,p3,p4,p5,p6];refine wpAnyH_done (by kernel_rfl) ?_ _;go_wp2;go_ret;exact⟨rfl,H1.out⟩
end
end Go.Proofs.YtjpklmighoondaaGreatDoor.Fa
