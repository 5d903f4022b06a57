/-
  The variables that the row of GenTakes lists: they hold what the program's text lays.
-/
import Derived.Test.YthblokfiojccmaaGreatDoorCards
import Derived.Test.YthblokfiojccmaaGreatDoorTie
import Derived.Test.YthblokfiojccmaaGreatDoorOpenN
import Derived.Test.YthblokfiojccmaaGreatDoorGtX
import Derived.Stop.LaidErr
import Derived.Shelf.Vars
import Derived.Lib.LaidTab
import Derived.Lay
import Derived.SevenTiedAt
import Derived.LaidMore
import Derived.LaidSub
import Derived.Stop.Joined
namespace Go.Proofs.YthblokfiojccmaaGreatDoor
open Go.ChangeShapes Go.WideShapes Go.ChangeAt Go.RowKit Gn

def laidA : List (String × DataW Unit) := [("math/bits.deBruijn32tab", Rows.laid_math_bits_deBruijn32tab), ("math/bits.deBruijn64tab", Rows.laid_math_bits_deBruijn64tab), ("internal/strconv.uint64pow10", Rows.laid_internal_strconv_uint64pow10), ("unicode/utf8.acceptRanges", Rows.laid_unicode_utf8_acceptRanges), ("errors.errorType", Rows.laid_errors_errorType), ("strconv.ErrRange", Rows.laid_strconv_ErrRange), ("strconv.ErrSyntax", Rows.laid_strconv_ErrSyntax), ("testimony/testimonyref.Fine", Rows.laid_testimony_testimonyref_Fine), ("unicode/utf8.first", Rows.laid_unicode_utf8_first)]

def laidD : List (String × DataW Unit) := laidA.filter fun x => x.2.handleName?.isNone
/-- A world that holds all: the handle first, then the others. -/
noncomputable def w0A (os : Os) : World := (World.holding Tryz.prog os ⟨#[], #[], []⟩).setCell ⟨1, 0, none⟩ (.iface 167 (.agg #[.pointer (some ⟨10, 32, none⟩)]))
noncomputable def wA (os : Os) : World := (w0A os).layVars Tryz.prog laidD
theorem wA_os (os : Os) : (wA os).os = os := World.layVars_os _ _ _
theorem laidD_met (os : Os) : laidMet Tryz.prog laidD (wA os) := by
  have e1 : (laidD.filter fun x => (laidD.map (·.1)).contains x.1) = laidD := List.filter_eq_self.2 fun x hx => List.contains_iff_mem.2 (List.mem_map.2 ⟨x, hx, rfl⟩)
  have e2 : (laidD.filter fun x => !(laidD.map (·.1)).contains x.1) = [] := List.filter_eq_nil_iff.2 fun x hx => by rw [List.contains_iff_mem.2 (List.mem_map.2 ⟨x, hx, rfl⟩)]; simp
  exact laidMet_layVars (w0 := w0A os) (laidD.map (·.1)) [] (by rw [e1]; rfl) (by rw [e1]; kernel_rfl) (by rw [e1]; kernel_rfl) (by rw [e2]; exact LaidIn.none)
theorem laidA_met (os : Os) (args : Array Value) : laidMetH Tryz.prog laidA ((wA os).forCall (fun _ _ => 0) ⟨#[], args, []⟩).memory :=
  laidMetH_of_parts3 (fuel := 8) ((laidD_met os).of_heap (by simp [World.memory, World.forCall, Input.heap])) (by kernel_rfl) (by kernel_rfl)
theorem gPow0 : Tryz.prog.globalNamed "internal/strconv.uint64pow10" = some 5 := by kernel_rfl
theorem powT_of {W : World} (h : laidMetH Tryz.prog laidA W) : PowT W := by
  have h1 : laidMet Tryz.prog [("internal/strconv.uint64pow10", Rows.laid_internal_strconv_uint64pow10)] W := (laidMetH_iff.1 (laidMetH.filter (fun x => x.1 == "internal/strconv.uint64pow10") h)).1
  exact Lib.tabIs_of_head (k := .u64) (zs := Lib.pow10Tab) (t := 180) (e := 99) (n := 20) gPow0 (by kernel_rfl) (by kernel_rfl) (by kernel_rfl) (by kernel_rfl) (by kernel_rfl) h1
theorem laidA_shaped (os : Os) : (wA os).Shaped Tryz.prog := World.shaped_of_ZipB (by kernel_rfl) (by kernel_rfl)

theorem starE : "*" ++ "errors.errorString" = "*errors.errorString" := by decide
theorem rowE (u : TypeId) (h : Tryz.prog.typeName? 3 u = some "*errors.errorString") : u = 185 :=
  typeName_ptr_named (nm := "errors.errorString") (by rw [starE]; kernel_rfl) (by kernel_rfl) (by decide) u (by rw [starE]; exact h)
theorem cellsE : Tryz.prog.cellsOf 187 = 1 := by kernel_rfl
theorem cellsS : Tryz.prog.cellsOf 9 = 1 := by kernel_rfl
theorem gRngT : (Tryz.prog.globals[gRng]?).map (·.type) = some 32 := by kernel_rfl
theorem gSynT : (Tryz.prog.globals[gSyn]?).map (·.type) = some 32 := by kernel_rfl

theorem errV_of {W : World} (h : laidMetH Tryz.prog laidA W) : ErrV W := by
  have h1 : laidMet Tryz.prog [("strconv.ErrRange", Rows.laid_strconv_ErrRange)] W := (laidMetH_iff.1 (laidMetH.filter (fun x => x.1 == "strconv.ErrRange") h)).1
  have h2 : laidMet Tryz.prog [("strconv.ErrSyntax", Rows.laid_strconv_ErrSyntax)] W := (laidMetH_iff.1 (laidMetH.filter (fun x => x.1 == "strconv.ErrSyntax") h)).1
  obtain ⟨a1, s1, hv1, -, -, -⟩ := laid_sentinel h1 gRng_eq gRngT Tryz.underlying32 rowE Tryz.underlying185 Tryz.underlying187 rfl rfl Tryz.underlying9 cellsE cellsS
  obtain ⟨a2, s2, hv2, -, -, -⟩ := laid_sentinel h2 gSyn_eq gSynT Tryz.underlying32 rowE Tryz.underlying185 Tryz.underlying187 rfl rfl Tryz.underlying9 cellsE cellsS
  exact ⟨⟨_, _, hv1⟩, ⟨_, _, hv2⟩⟩

theorem gErr : Tryz.prog.globalNamed "errors.errorType" = some 1 := by kernel_rfl
theorem tRt : (Tryz.prog.cutTypes.find? (·.1 == "internal/reflectlite.rtype")).map (·.2) = some 167 := by kernel_rfl
theorem oneRow : ((List.range 222).filter fun t => Tryz.prog.rowNamed t [101, 114, 114, 111, 114]) = [32] := by kernel_rfl
theorem sizeT : Tryz.prog.types.size = 222 := by kernel_rfl
theorem handle_in {L : List (String × DataW Unit)} {W : World} (hm : ("errors.errorType", Rows.laid_errors_errorType) ∈ L) (h : laidMetH Tryz.prog L W) : W.cell? ⟨1, 0, none⟩ = some (.iface 167 (.agg #[.pointer (some ⟨10, 32, none⟩)])) := by
  obtain ⟨name, u, ty, e1, e2, e3, e4, e5⟩ := (laidMetH_iff.1 h).2 _ (List.mem_filter.2 ⟨hm, rfl⟩)
  have en : name = [101, 114, 114, 111, 114] := (Option.some.inj e1).symm
  subst en
  obtain rfl := Option.some.inj (tRt.symm.trans e2)
  have hm : ty ∈ (List.range 222).filter fun t => Tryz.prog.rowNamed t [101, 114, 114, 111, 114] := List.mem_filter.2 ⟨List.mem_range.2 (by rw [← sizeT]; exact e3), e4⟩
  rw [oneRow] at hm
  obtain rfl := List.mem_singleton.1 hm
  have hh : typeHandle Tryz.prog 32 = .pointer (some ⟨10, 32, none⟩) := by kernel_rfl
  rw [hh] at e5
  exact (by simpa using World.var?_cell gErr e5 0 : W.cell? ⟨1, 0, none⟩ = some (.iface 167 (.agg #[.pointer (some ⟨10, 32, none⟩)])))
theorem glE_of {W : World} (h : laidMetH Tryz.prog laidA W) : GlE W := ⟨World.block_lt_of_cell? W _ (handle_in (by simp [laidA]) h), handle_in (by simp [laidA]) h⟩
theorem gFine : Tryz.prog.globalNamed "testimony/testimonyref.Fine" = some 0 := by kernel_rfl
theorem tFine : (Tryz.prog.globals[0]?).map (·.type) = some 26 := by kernel_rfl
theorem cells25 : Tryz.prog.cellsOf 24 = 1 := by kernel_rfl
theorem cells3 : Tryz.prog.cellsOf 3 = 1 := by kernel_rfl
set_option maxRecDepth 100000 in
theorem fine_of {W : World} (h : laidMetH Tryz.prog laidA W) : W.cell? ⟨0, 0, none⟩ = some (.int .i64 0) ∧ W.cell? ⟨0, 1, none⟩ = some (.int .i64 (-1)) := by
  have h' : laidMet Tryz.prog [("testimony/testimonyref.Fine", Rows.laid_testimony_testimonyref_Fine)] W := (laidMetH_iff.1 (laidMetH.filter (fun x => x.1 == "testimony/testimonyref.Fine") h)).1
  obtain ⟨ps, ⟨g, t, cs, fuel, p, q, hg, ht, hv, htr, _, _⟩, _⟩ := h'
  obtain rfl := Option.some.inj (gFine.symm.trans hg)
  obtain rfl := Option.some.inj (tFine.symm.trans ht)
  obtain ⟨xs, n, _, hx, hl, hlen, hf⟩ := DataW.trod_struct Tryz.underlying26 htr
  have hx1 : xs.map (·.1) = [.lit (.int .i64 0), .lit (.int .i64 (-1))] := by
    have := congrArg Prod.fst hx
    simpa [Rows.laid_testimony_testimonyref_Fine] using this.symm
  have f0 : DataW.trod (fun _ => ()) Tryz.prog W 0 (fun _ => true) false n 24 ((cs.toList.drop 0).take (Tryz.prog.cellsOf 24)) = xs[0]? := hf 0 _ rfl
  have f1 : DataW.trod (fun _ => ()) Tryz.prog W 0 (fun _ => true) false n 3 ((cs.toList.drop 1).take (Tryz.prog.cellsOf 3)) = xs[1]? := hf 1 _ rfl
  rw [cells25] at f0
  rw [cells3] at f1
  have g0 : (xs.map (·.1))[0]? = some (.lit (.int .i64 0)) := by rw [hx1]; rfl
  have g1 : (xs.map (·.1))[1]? = some (.lit (.int .i64 (-1))) := by rw [hx1]; rfl
  rw [List.getElem?_map] at g0 g1
  obtain ⟨y0, hy0, e0⟩ := Option.map_eq_some_iff.1 g0
  obtain ⟨y1, hy1, e1⟩ := Option.map_eq_some_iff.1 g1
  rw [hy0] at f0
  rw [hy1] at f1
  obtain ⟨n0, c0, z0, _⟩ := DataW.trod_int Tryz.underlying24 f0
  obtain ⟨n1, c1, z1, _⟩ := DataW.trod_int Tryz.underlying3 f1
  have hn0 : n0 = 0 := by rw [z0] at e0; simpa using e0
  have hn1 : n1 = -1 := by rw [z1] at e1; simpa using e1
  subst hn0 hn1
  have k0 : ((cs.toList.drop 0).take 1)[0]? = some (.int .i64 0) := by rw [c0]; rfl
  have k1 : ((cs.toList.drop 1).take 1)[0]? = some (.int .i64 (-1)) := by rw [c1]; rfl
  rw [List.getElem?_take_of_lt (by decide), List.getElem?_drop] at k0 k1
  refine ⟨(World.var?_cell gFine hv 0).trans (by simpa using k0), (World.var?_cell gFine hv 1).trans (by simpa using k1)⟩
end Go.Proofs.YthblokfiojccmaaGreatDoor
