/-
  A map from numbers to ops in memory, and the struct of a history.
-/
import Derived.Test.YtbmnehnmmlfhdaaDoorPlainK
import Derived.Test.YtbmnehnmmlfhdaaDoorWalkCZ
import Derived.Test.YtbmnehnmmlfhdaaDoorWalkAZ
import Derived.Maps.OwnSet
namespace Go.Proofs.YtbmnehnmmlfhdaaDoor
open Go.RowKit
open Go.Maps (Keyed int_keyed IsMap)

def zeroOp : Opn := ⟨0, 0, 0, 0, 0, 0, 0, 0⟩
def opD (x : Opn) : DataW Unit := .agg [.lit (.int .i64 x.p), .lit (.int .i64 x.k), .lit (.int .i64 x.d), .lit (.int .i64 x.a), .lit (.int .i64 x.b), .lit (.int .i64 x.r), .lit (.int .i64 x.c), .lit (.int .i64 x.e)]
/-- How an op reads as an element of a map. -/
def opElem : Value → Option (DataW Unit × List MemPlace)
  | .agg ⟨[.int .i64 p, .int .i64 k, .int .i64 d, .int .i64 a, .int .i64 b, .int .i64 r, .int .i64 c, .int .i64 e]⟩ => some (opD ⟨p, k, d, a, b, r, c, e⟩, [])
  | _ => none
theorem opElem_mk (x : Opn) : opElem x.agg = some (opD x, []) := rfl
theorem opElem_inv {v : Value} {z : DataW Unit × List MemPlace} (h : opElem v = some z) : ∃ x : Opn, v = x.agg ∧ z = (opD x, []) := by
  unfold opElem at h
  split at h
  · exact ⟨⟨_, _, _, _, _, _, _, _⟩, rfl, (Option.some.inj h).symm⟩
  · cases h
theorem opD_inj {x y : Opn} (h : opD x = opD y) : x = y := by
  cases x; cases y
  simpa [opD] using h

theorem keyedI : Keyed Tryd.prog 3 := int_keyed Tryd.underlying3
theorem zeroE (w : World) : (zeroValue 51).run Tryd.prog w = .ok zeroOp.agg w := by kernel_rfl
theorem keyI (p : Int) (h0 : 0 ≤ p) (h8 : p < 8) : keyOf Tryd.prog 3 (.int .i64 p) = some (.int .i64 p) := Go.Maps.keyOf_int_mk Tryd.underlying3 (WalkArith.wf_i64 (by omega))

/-- Block M is a map that tells what each process is at. -/
def MapIs (w : World) (M n : Nat) (busy : Int → Option Opn) : Prop :=
  ∃ D : DataW Unit, w.ownsMap Tryd.prog 3 opElem M n D ∧ ∀ q : Int, Maps.has D (.int .i64 q) = (busy q).isSome ∧ ∀ o, busy q = some o → ∀ z, D.atKey (.int .i64 q) z = opD o

theorem MapIs.drew {w : World} {M n : Nat} {busy : Int → Option Opn} (h : MapIs w M n busy) : MapIs w.drew M n busy := h
theorem MapIs.alloc {w : World} {M n : Nat} {busy : Int → Option Opn} (h : MapIs w M n busy) (o : Obj) : MapIs (w.alloc o) M n busy := by
  obtain ⟨D, h1, h2⟩ := h
  exact ⟨D, h1.alloc o, h2⟩
theorem MapIs.setCell {w : World} {M n : Nat} {busy : Int → Option Opn} (h : MapIs w M n busy) {a : Addr} (ha : M ≠ a.block) (u : Value) : MapIs (w.setCell a u) M n busy := by
  obtain ⟨D, h1, h2⟩ := h
  exact ⟨D, h1.setCell ha u, h2⟩
theorem MapIs.kept {w w' : World} {M n : Nat} {busy : Int → Option Opn} {row : Option Nat} (h : MapIs w M n busy) (hg : w.grownBy w' row) (hne : some M ≠ row) : MapIs w' M n busy := by
  obtain ⟨D, h1, h2⟩ := h
  exact ⟨D, h1.kept hg hne, h2⟩
theorem mapIs_made (w : World) : MapIs (w.alloc (.map #[] 0)) w.heap.size 0 (fun _ => none) :=
  ⟨_, World.ownsMap_made w Tryd.prog 3 opElem, fun _ => ⟨rfl, fun o h => by cases h⟩⟩

theorem MapIs.look {w : World} {M n : Nat} {busy : Int → Option Opn} (h : MapIs w M n busy) (p : Int) (h0 : 0 ≤ p) (h8 : p < 8) :
    ∃ x : Opn, (Instr.lookup 66 (.map (some M)) (.int .i64 p) true).run Tryd.prog w = .ok (.tuple #[x.agg, .bool (busy p).isSome]) w ∧ ∀ o, busy p = some o → x = o := by
  obtain ⟨D, h1, h2⟩ := h
  obtain ⟨v, ps, hrun, hv⟩ := h1.look_ok keyedI Tryd.underlying66 (zeroE w) (opElem_mk zeroOp) (keyI p h0 h8)
  obtain ⟨x, rfl, hx⟩ := opElem_inv hv
  refine ⟨x, by rw [← (h2 p).1]; exact hrun, fun o ho => ?_⟩
  simp only [Prod.mk.injEq] at hx
  rw [(h2 p).2 o ho] at hx
  exact (opD_inj hx.1).symm

theorem isKeyI (p : Int) (_h0 : 0 ≤ p) (_h8 : p < 8) : WideAt.IsKeyLit (.int .i64 p) := by
  simp [WideAt.IsKeyLit]

theorem MapIs.store {w : World} {M n : Nat} {busy : Int → Option Opn} (h : MapIs w M n busy) (hn : n < 1000) (p : Int) (h0 : 0 ≤ p) (h8 : p < 8) (x : Opn) :
    ∃ w', (Instr.mapUpdate 66 (.map (some M)) (.int .i64 p) x.agg).run Tryd.prog w = .ok () w' ∧ MapIs w' M (n + 1) (setO busy p (some x)) ∧ w.mapTurned w' M := by
  obtain ⟨D, h1, h2⟩ := h
  obtain ⟨w', hrun, ho, ht⟩ := h1.store keyedI Tryd.underlying66 (by unfold maxLen; omega) (keyI p h0 h8) (opElem_mk x)
  refine ⟨w', hrun, ⟨_, ho, fun q => ?_⟩, ht⟩
  by_cases e : q = p
  · subst e
    rw [setO_same, Maps.has_put_same h1.isMap (isKeyI q h0 h8)]
    exact ⟨rfl, fun o ho z => by obtain rfl := Option.some.inj ho; exact Maps.atKey_put_same h1.isMap (isKeyI q h0 h8) _ z⟩
  · have hne : (Lit.int .i64 q) ≠ .int .i64 p := fun k => e (by simpa using k)
    rw [setO_other _ _ _ _ e, Maps.has_put_other hne]
    exact ⟨(h2 q).1, fun o ho z => by rw [Maps.atKey_put_other hne]; exact (h2 q).2 o ho z⟩

theorem MapIs.drop {w : World} {M n : Nat} {busy : Int → Option Opn} (h : MapIs w M n busy) (p : Int) (h0 : 0 ≤ p) (h8 : p < 8) (ty : TypeId) :
    ∃ w', (Builtin.delete_ #[66, 3] ty #[.map (some M), .int .i64 p]).run Tryd.prog w = .ok (.tuple #[]) w' ∧ MapIs w' M n (setO busy p none) ∧ w.mapTurned w' M := by
  obtain ⟨D, h1, h2⟩ := h
  obtain ⟨w', hrun, ho, ht⟩ := h1.drop keyedI Tryd.underlying66 (keyI p h0 h8) ty
  refine ⟨w', hrun, ⟨_, ho, fun q => ?_⟩, ht⟩
  by_cases e : q = p
  · subst e
    rw [setO_same, Maps.has_del_same]
    exact ⟨rfl, fun o ho => by cases ho⟩
  · have hne : (Lit.int .i64 q) ≠ .int .i64 p := fun k => e (by simpa using k)
    rw [setO_other _ _ _ _ e, Maps.has_del_other hne]
    exact ⟨(h2 q).1, fun o ho z => by rw [Maps.atKey_del_other hne]; exact (h2 q).2 o ho z⟩

end Go.Proofs.YtbmnehnmmlfhdaaDoor
