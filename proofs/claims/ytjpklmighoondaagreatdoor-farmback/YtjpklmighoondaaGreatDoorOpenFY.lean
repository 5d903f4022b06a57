/-
  The variables that the rows of package farm list: they hold what the program's text lays.
-/
import Derived.Test.YtjpklmighoondaaGreatDoorCards
import Derived.Test.YtjpklmighoondaaGreatDoorTie
import Derived.Test.YtjpklmighoondaaGreatDoorGnPY
import Derived.Test.YtjpklmighoondaaGreatDoorGnHY
import Derived.Test.YtjpklmighoondaaGreatDoorRdBY
import Derived.Test.YtjpklmighoondaaGreatDoorRowSY
import Derived.RangeFuncBound
import Derived.Stop.LaidErr
import Derived.Shelf.Vars
import Derived.Lib.LaidTab
import Derived.Lay
import Derived.SevenTiedAt
import Derived.LaidMore
import Derived.LaidSub
import Derived.Stop.Joined
namespace Go.Proofs.YtjpklmighoondaaGreatDoor
open Go.ChangeShapes Go.WideShapes Go.ChangeAt Go.RowKit Gn
def laidA : List (String × DataW Unit) := [("math/bits.deBruijn32tab", Rows.laid_math_bits_deBruijn32tab), ("math/bits.deBruijn64tab", Rows.laid_math_bits_deBruijn64tab), ("internal/strconv.uint64pow10", Rows.laid_internal_strconv_uint64pow10), ("unicode/utf8.acceptRanges", Rows.laid_unicode_utf8_acceptRanges), ("errors.errorType", Rows.laid_errors_errorType), ("strconv.ErrRange", Rows.laid_strconv_ErrRange), ("strconv.ErrSyntax", Rows.laid_strconv_ErrSyntax), ("testimony/model.known", Rows.laid_testimony_model_known), ("unicode/utf8.first", Rows.laid_unicode_utf8_first)]
def laidD:List (String×DataW Unit):=laidA.filter fun x=>x.2.handleName?.isNone
noncomputable def w0A (os:Os):World:=(World.holding Tryz.prog os ⟨#[],#[],[]⟩).setCell ⟨2,0,none⟩ (.iface 349 (.agg #[.pointer (some ⟨10,29,none⟩)]))
noncomputable def wA (os:Os):World:=(w0A os).layVars Tryz.prog laidD
theorem wA_os (os:Os):(wA os).os=os:=World.layVars_os _ _ _
theorem laidD_met (os:Os):laidMet Tryz.prog laidD (wA os):=by
 have e1:(laidD.filter fun x=>(laidD.map (·.1)).contains x.1)=laidD:=List.filter_eq_self.2 fun x hx=>List.contains_iff_mem.2 (List.mem_map.2 ⟨x,hx,rfl⟩)
 have e2:(laidD.filter fun x=> !(laidD.map (·.1)).contains x.1)= []:=List.filter_eq_nil_iff.2 fun x hx=>by rw[List.contains_iff_mem.2 (List.mem_map.2 ⟨x,hx,rfl⟩)];simp
 exact laidMet_layVars (w0:=w0A os) (laidD.map (·.1)) [] (by rw[e1];rfl) (by rw[e1];kernel_rfl) (by rw[e1];kernel_rfl) (by rw[e2];exact LaidIn.none)
theorem laidA_met (os:Os) (args:Array Value):laidMetH Tryz.prog laidA ((wA os).forCall (fun _ _=>0) ⟨#[],args,[]⟩).memory:=
 laidMetH_of_parts3 (fuel:=8) ((laidD_met os).of_heap (by simp[World.memory,World.forCall,Input.heap])) (by kernel_rfl) (by kernel_rfl)
theorem gPow0 : Tryz.prog.globalNamed "internal/strconv.uint64pow10" = some 3 := by kernel_rfl
theorem powT_of {W:World} (h:laidMetH Tryz.prog laidA W):PowT W:=by
 have h1 : laidMet Tryz.prog [("internal/strconv.uint64pow10", Rows.laid_internal_strconv_uint64pow10)] W := (laidMetH_iff.1 (laidMetH.filter (fun x => x.1 == "internal/strconv.uint64pow10") h)).1
 exact Lib.tabIs_of_head (k:=.u64) (zs:=Lib.pow10Tab) (t:=332) (e:=164) (n:=20) gPow0 (by kernel_rfl) (by kernel_rfl) (by kernel_rfl) (by kernel_rfl) (by kernel_rfl) h1
theorem laidA_shaped (os:Os):(wA os).Shaped Tryz.prog:=World.shaped_of_ZipB (by kernel_rfl) (by kernel_rfl)
theorem starE : "*" ++ "errors.errorString" = "*errors.errorString" := by decide
theorem rowE (u : TypeId) (h : Tryz.prog.typeName? 3 u = some "*errors.errorString") : u = 394 :=
 typeName_ptr_named (nm := "errors.errorString") (by rw [starE]; kernel_rfl) (by kernel_rfl) (by decide) u (by rw [starE]; exact h)
theorem cellsE:Tryz.prog.cellsOf 396=1:=by kernel_rfl
theorem cellsS:Tryz.prog.cellsOf 9=1:=by kernel_rfl
theorem gRngT:(Tryz.prog.globals[gRng]?).map (·.type)=some 29:=by kernel_rfl
theorem gSynT:(Tryz.prog.globals[gSyn]?).map (·.type)=some 29:=by kernel_rfl
theorem errV_of {W:World} (h:laidMetH Tryz.prog laidA W):ErrV W:=by
 have h1 : laidMet Tryz.prog [("strconv.ErrRange", Rows.laid_strconv_ErrRange)] W := (laidMetH_iff.1 (laidMetH.filter (fun x => x.1 == "strconv.ErrRange") h)).1
 have h2 : laidMet Tryz.prog [("strconv.ErrSyntax", Rows.laid_strconv_ErrSyntax)] W := (laidMetH_iff.1 (laidMetH.filter (fun x => x.1 == "strconv.ErrSyntax") h)).1
 obtain⟨a1,s1,hv1,-,-,-⟩:=laid_sentinel h1 gRng_eq gRngT Tryz.underlying29 rowE Tryz.underlying394 Tryz.underlying396 rfl rfl Tryz.underlying9 cellsE cellsS;obtain⟨a2,s2,hv2,-,-,-⟩:=laid_sentinel h2 gSyn_eq gSynT Tryz.underlying29 rowE Tryz.underlying394 Tryz.underlying396 rfl rfl Tryz.underlying9 cellsE cellsS;exact⟨⟨_,_,hv1⟩,⟨_,_,hv2⟩⟩
theorem cells88:Tryz.prog.cellsOf 237=13:=by kernel_rfl
theorem gKnown : Tryz.prog.globalNamed "testimony/model.known" = some 0 := by kernel_rfl
theorem tKnown:(Tryz.prog.globals[0]?).map (·.type)=some 238:=by kernel_rfl
theorem laid_known:(Rows.laid_testimony_model_known:DataW Unit)=.agg ((List.range 7).map fun (o:Nat)=>.agg ((List.range 13).map fun (k:Nat)=>.lit (.bool (knowsB o k)))):=by kernel_rfl
theorem known_of {W : World} (h : laidMetH Tryz.prog [("testimony/model.known", Rows.laid_testimony_model_known)] W) : KnownAt W := by
 have h' : laidMet Tryz.prog [("testimony/model.known", Rows.laid_testimony_model_known)] W := h
 obtain⟨ps,⟨g,t,cs,fuel,p,q,hg,ht,hv,htr,_,_⟩,_⟩:=h';obtain rfl:=Option.some.inj (gKnown.symm.trans hg);obtain rfl:=Option.some.inj (tKnown.symm.trans ht);rw[laid_known] at htr;obtain⟨xs,m,_,hx,_,hlen,hrow⟩:=DataW.trod_array Tryz.underlying238 htr;have hx1:(xs.map (·.1))=((List.range 7).map fun (o:Nat)=>DataW.agg ((List.range 13).map fun (k:Nat)=>.lit (.bool (knowsB o k)))):=by
  have:=congrArg Prod.fst hx
  simpa using this.symm
 intro o k ho hk;have hr:=hrow o ho;have hxo:(xs.map (·.1))[o]?=some (DataW.agg ((List.range 13).map fun (k:Nat)=>.lit (.bool (knowsB o k)))):=by
  rw[hx1,List.getElem?_map,List.getElem?_range ho];rfl
 rw[List.getElem?_map] at hxo;obtain⟨y,hy,hy1⟩:=Option.map_eq_some_iff.1 hxo;rw[hy,cells88] at hr;obtain⟨zs,m',_,hz,_,hzlen,hz2⟩:=DataW.trod_array Tryz.underlying237 hr;have hz1:(zs.map (·.1))=(List.range 13).map fun (k:Nat)=>DataW.lit (.bool (knowsB o k)):=by
  have:=congrArg Prod.fst hz;rw[hy1] at this
  simpa using this.symm
 have hq:=hz2 k hk;have hzk:(zs.map (·.1))[k]?=some (DataW.lit (.bool (knowsB o k))):=by
  rw[hz1,List.getElem?_map,List.getElem?_range hk];rfl
 rw[List.getElem?_map] at hzk;obtain⟨z,hz3,hz4⟩:=Option.map_eq_some_iff.1 hzk;rw[hz3,cells4] at hq;obtain⟨b,hb,hzb⟩:=DataW.trod_bool Tryz.underlying4 hq;have hbk:b=knowsB o k:=by
  rw[hzb] at hz4
  simpa using hz4
 have hc:=World.var?_cell gKnown hv (o*13+k);rw[hc];have h0:(((((cs.toList.drop (o*13)).take 13)).drop (k*1)).take 1)[0]?=some (.bool b):=by rw[hb];rfl
 rw[List.getElem?_take_of_lt (by decide),List.getElem?_drop,List.getElem?_take_of_lt (by omega),List.getElem?_drop] at h0;rw[←hbk]
 simpa using h0
theorem knownA {W : World} (h : laidMetH Tryz.prog laidA W) : KnownAt W := known_of (laidMetH.filter (fun x => x.1 == "testimony/model.known") h)
theorem maxLen_of {W:World} (h:W.ShapedOpen Tryz.prog):∃m,W.cell? ⟨1,0,none⟩=some (.int .i64 m):=
 cell_of_shapedOpen_int h (of_decide_eq_true (by kernel_rfl)) (zero:=#[.int .i64 0]) (t:=3) (by kernel_rfl) rfl (by kernel_rfl) (by kernel_rfl) Tryz.underlying3
section
variable {H : Type} {enc : TypeId × Value → H} {w : World} {base : Nat} {spare : Nat → Bool} {held : Bool}
theorem cellsPl:Tryz.prog.cellsOf 25=8:=by kernel_rfl
theorem plan_of_Trod {v:Value} {d:DataW H} {ps:List MemPlace} (hv:∃cs,v=.agg cs∧cs.size=Tryz.prog.cellsOf 25) (h:DataW.Trod enc Tryz.prog w base spare held 25 v d ps):
  ∃(n k a t:Int) (b:Bool) (ti:ByteArray) (ge:Bt) (bud:Int),v=.agg #[.int .i64 n,.int .i64 k,.int .i64 a,.int .i64 t,.bool b,.string ti,.string (ba ge),.int .i64 bud]:=by
 obtain⟨cs,rfl,_⟩:=hv;obtain⟨fuel,hf0⟩:=h;have h:DataW.trod enc Tryz.prog w base spare held fuel 25 cs.toList=some (d,ps):=by simpa [Value.cells] using hf0
 obtain⟨xs,n,_,_,hl,hlen,hf⟩:=DataW.trod_struct Tryz.underlying25 h;rw[cellsPl] at hl;obtain⟨c0,c1,c2,c3,c4,c5,c6,c7,hcs⟩:∃c0 c1 c2 c3 c4 c5 c6 c7,cs.toList= [c0,c1,c2,c3,c4,c5,c6,c7]:=by
  match cs.toList,hl with
  | [c0,c1,c2,c3,c4,c5,c6,c7],_=>exact⟨c0,c1,c2,c3,c4,c5,c6,c7,rfl⟩
 have hsome:∀i,i < 4→∃y,xs[i]?=some y:=fun i hi=>⟨_,List.getElem?_eq_getElem (by rw[hlen];exact hi)⟩
 obtain⟨y0,g0⟩:=hsome 0 (by decide);obtain⟨y1,g1⟩:=hsome 1 (by decide);obtain⟨y2,g2⟩:=hsome 2 (by decide);obtain⟨y3,g3⟩:=hsome 3 (by decide);have f0:DataW.trod enc Tryz.prog w base spare held n 23 ((cs.toList.drop 0).take (Tryz.prog.cellsOf 23))=xs[0]?:=hf 0 _ rfl;have f1:DataW.trod enc Tryz.prog w base spare held n 9 ((cs.toList.drop 5).take (Tryz.prog.cellsOf 9))=xs[1]?:=hf 1 _ rfl;have f2:DataW.trod enc Tryz.prog w base spare held n 9 ((cs.toList.drop 6).take (Tryz.prog.cellsOf 9))=xs[2]?:=hf 2 _ rfl;have f3:DataW.trod enc Tryz.prog w base spare held n 3 ((cs.toList.drop 7).take (Tryz.prog.cellsOf 3))=xs[3]?:=hf 3 _ rfl;rw[cellsS,hcs] at f1 f2;rw[cells3,hcs] at f3;rw[cellsSu,hcs,g0] at f0;rw[g1] at f1;rw[g2] at f2;rw[g3] at f3;obtain⟨s1,e5,_⟩:=DataW.trod_string Tryz.underlying9 f1;obtain⟨s2,e6,_⟩:=DataW.trod_string Tryz.underlying9 f2;obtain⟨i7,e7,_⟩:=DataW.trod_int Tryz.underlying3 f3;obtain⟨i0,i1,i2,i3,i4,e0⟩:=setup_of_Trod (v:=.agg #[c0,c1,c2,c3,c4]) ⟨_,rfl,by rw[cellsSu];rfl⟩ ⟨n,by simpa [Value.cells] using f0⟩;simp at e5 e6 e7 e0;obtain⟨rfl,rfl,rfl,rfl,rfl⟩:=e0;have:cs=#[.int .i64 i0,.int .i64 i1,.int .i64 i2,.int .i64 i3,.bool i4,c5,c6,c7]:=by rw[←Array.toArray_toList (xs:=cs),hcs]
 exact⟨i0,i1,i2,i3,i4,s1,s2.data.toList,i7,by rw[this,e5,e6,e7];rfl⟩
end
end Go.Proofs.YtjpklmighoondaaGreatDoor
