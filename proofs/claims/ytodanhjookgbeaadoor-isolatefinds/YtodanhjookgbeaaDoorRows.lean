/-
  NARROWER THAN 'FOR EVERY INPUT', by the rows' own cells (each row's printed sentence says how): IsolateEdges: laid · IsolateFinds: laid · IsolateSerial: laid.
  DERIVED. THE GIVEN ROWS OF THIS SEAT. 3 by the template 'for every input the law returns true; each argument reads behind the call as it read before'; 0 by the template 'total and deterministic' (their statements: YtodanhjookgbeaaDoorTotals.lean).
  GIVEN WITH THE SEED: the statements are not yours to turn. If you find one false, say at which input.
  Laid BY PROGRAM, IN A SANDBOX (cutbox-rows.mjs): the forced cells as the released guide's own fill.sh prints them over the translation c33bab563c906d7b… (all of the seat's roots in one cut). By AI agents, Wed Nov 11 2026. No macro, syntax, notation, axiom, sorry.
-/
import Derived.Test.YtodanhjookgbeaaDoorChecked
import GoSem.Claim
import GoSem.ClaimJoined
import GoSem.ClaimMapViews
import Derived.JoinedTies
import Derived.KernelRfl
namespace Go.Proofs.YtodanhjookgbeaaDoor
/- THE CELL 'sum', in the pinned program and in every row, IS THE sha256 OF THE DUMP (.gsa) THAT YtodanhjookgbeaaDoorProg.lean LOADS. Nothing in Lean hashes anything: it is a label: what it is worth is what the hold of that sum in a sandbox is worth. -/
noncomputable def Tryd.pinned : Pinned := { name := "ytodanhjookgbeaadoor", sum := "c33bab563c906d7b96f98c04d748c1c49e1decbc66df76b69feabd1b6c06b202", checked := Tryd.checked }
namespace Rows
def none {H : Type} : Left H := { results := [], args := [] }

/- WHAT THE LISTED PACKAGE-LEVEL VARIABLES READ AS WHEN THE CALL BEGINS. Each datum BY PROGRAM (the guide's laid-datum.mjs) off the statement by which the dump's own 'gosem.cut.vars' lays the variable. In a bare row this is a premise. The card (YtodanhjookgbeaaDoorCards.lean) ties it to the program's text. -/
def laid_errors_errorType {H : Type} : DataW H := .iface "internal/reflectlite.rtype" (.agg [.ptr (.lit (.string [101, 114, 114, 111, 114]))])

/-- 'testimonylaw.IsolateEdges': WHATEVER THE INPUT: true; the input reads as it did. -/
def isolateEdgesSpec : ChangeSpec := { name := "isolateEdges", fn := fun _ => fun
  | [d] => { results := [.lit (.bool true)], args := [d] }
  | _ => none }
def isolateEdgesRow : OpenClaim := { program := "ytodanhjookgbeaadoor", sum := "c33bab563c906d7b96f98c04d748c1c49e1decbc66df76b69feabd1b6c06b202", func := "testimony/testimonylaw.IsolateEdges", spec := "isolateEdges", inPlace := ["internal/reflectlite.ValueOf", "(internal/reflectlite.Value).Type", "(internal/reflectlite.Value).IsNil", "internal/reflectlite.TypeOf", "(internal/reflectlite.Value).Elem", "(internal/reflectlite.Value).Set"], unfollowed := true, recurses := true, named := ["errors.errorType"], apart := false, laid := [("errors.errorType", laid_errors_errorType)] }
def IsolateEdgesSaid : Prop := isolateEdgesRow.holds Tryd.pinned (OpenSpec.ofChange isolateEdgesSpec)

/-- ITS FALSE NEIGHBOUR: 'it returns false'. Refute it at one input. -/
def isolateEdgesWrong : ChangeSpec := { name := "isolateEdges", fn := fun _ => fun
  | [d] => { results := [.lit (.bool false)], args := [d] }
  | _ => none }
def IsolateEdgesWrongFalsely : Prop := isolateEdgesRow.holds Tryd.pinned (OpenSpec.ofChange isolateEdgesWrong)

/-- 'testimonylaw.IsolateFinds': WHATEVER THE INPUT: true; the input reads as it did. -/
def isolateFindsSpec : ChangeSpec := { name := "isolateFinds", fn := fun _ => fun
  | [d] => { results := [.lit (.bool true)], args := [d] }
  | _ => none }
def isolateFindsRow : OpenClaim := { program := "ytodanhjookgbeaadoor", sum := "c33bab563c906d7b96f98c04d748c1c49e1decbc66df76b69feabd1b6c06b202", func := "testimony/testimonylaw.IsolateFinds", spec := "isolateFinds", inPlace := ["internal/reflectlite.ValueOf", "(internal/reflectlite.Value).Type", "(internal/reflectlite.Value).IsNil", "internal/reflectlite.TypeOf", "(internal/reflectlite.Value).Elem", "(internal/reflectlite.Value).Set"], unfollowed := true, recurses := true, named := ["errors.errorType"], apart := false, laid := [("errors.errorType", laid_errors_errorType)] }
def IsolateFindsSaid : Prop := isolateFindsRow.holds Tryd.pinned (OpenSpec.ofChange isolateFindsSpec)

/-- ITS FALSE NEIGHBOUR: 'it returns false'. Refute it at one input. -/
def isolateFindsWrong : ChangeSpec := { name := "isolateFinds", fn := fun _ => fun
  | [d] => { results := [.lit (.bool false)], args := [d] }
  | _ => none }
def IsolateFindsWrongFalsely : Prop := isolateFindsRow.holds Tryd.pinned (OpenSpec.ofChange isolateFindsWrong)

/-- 'testimonylaw.IsolateSerial': WHATEVER THE INPUT: true; the input reads as it did. -/
def isolateSerialSpec : ChangeSpec := { name := "isolateSerial", fn := fun _ => fun
  | [d] => { results := [.lit (.bool true)], args := [d] }
  | _ => none }
def isolateSerialRow : OpenClaim := { program := "ytodanhjookgbeaadoor", sum := "c33bab563c906d7b96f98c04d748c1c49e1decbc66df76b69feabd1b6c06b202", func := "testimony/testimonylaw.IsolateSerial", spec := "isolateSerial", inPlace := ["internal/reflectlite.ValueOf", "(internal/reflectlite.Value).Type", "(internal/reflectlite.Value).IsNil", "internal/reflectlite.TypeOf", "(internal/reflectlite.Value).Elem", "(internal/reflectlite.Value).Set"], unfollowed := true, recurses := true, named := ["errors.errorType"], apart := false, laid := [("errors.errorType", laid_errors_errorType)] }
def IsolateSerialSaid : Prop := isolateSerialRow.holds Tryd.pinned (OpenSpec.ofChange isolateSerialSpec)

/-- ITS FALSE NEIGHBOUR: 'it returns false'. Refute it at one input. -/
def isolateSerialWrong : ChangeSpec := { name := "isolateSerial", fn := fun _ => fun
  | [d] => { results := [.lit (.bool false)], args := [d] }
  | _ => none }
def IsolateSerialWrongFalsely : Prop := isolateSerialRow.holds Tryd.pinned (OpenSpec.ofChange isolateSerialWrong)

/- THE SECOND FORM. 'bulk': how many values and letters a reading holds, each counted each time it is reached (what is shared counts as often as it is met; a slice's spare places count too). A statement '..UptoSaid' is the law's where the arguments, and the package variables that the reading takes, are together of bulk at most 1048576: NARROWER than '..Said'. Prove '..Said' where nothing that the law and all that it calls make is longer than what came in: it says more and counts as full. Else prove '..UptoSaid'. A law counts once. -/
mutual
def uptoBulk {H : Type} : DataW H → Nat
  | .lit (.string bytes) => bytes.length + 1
  | .lit _ => 1
  | .nil => 1
  | .ptr d => uptoBulk d + 1
  | .slice elems spare => uptoBulkAll elems + uptoBulkAll spare + 1
  | .agg parts => uptoBulkAll parts + 1
  | .iface _ d => uptoBulk d + 1
  | .map entries => uptoBulkEntries entries + 1
  | .held _ => 1
def uptoBulkAll {H : Type} : List (DataW H) → Nat
  | [] => 0
  | d :: r => uptoBulk d + uptoBulkAll r
def uptoBulkEntries {H : Type} : List (Lit × DataW H) → Nat
  | [] => 0
  | x :: r => uptoBulkEntry x + uptoBulkEntries r
def uptoBulkEntry {H : Type} : Lit × DataW H → Nat
  | (.string bytes, d) => bytes.length + uptoBulk d + 1
  | (_, d) => uptoBulk d + 1
 end
def uptoSmall : (H : Type) → List (DataW H) → Bool := fun _ ds => decide (uptoBulkAll ds ≤ 1048576)
def OpenSpec.upto (s : _root_.Go.ChangeSpec) : _root_.Go.OpenSpec := { _root_.Go.OpenSpec.ofChange s with cond := some uptoSmall }

/-- 'testimonylaw.IsolateEdges', WHERE WHAT IT READS IS OF BULK AT MOST 1048576: true; the input reads as it did. -/
def isolateEdgesUptoRow : OpenClaim := { program := "ytodanhjookgbeaadoor", sum := "c33bab563c906d7b96f98c04d748c1c49e1decbc66df76b69feabd1b6c06b202", func := "testimony/testimonylaw.IsolateEdges", spec := "isolateEdges", inPlace := ["internal/reflectlite.ValueOf", "(internal/reflectlite.Value).Type", "(internal/reflectlite.Value).IsNil", "internal/reflectlite.TypeOf", "(internal/reflectlite.Value).Elem", "(internal/reflectlite.Value).Set"], unfollowed := true, recurses := true, named := ["errors.errorType"], apart := false, laid := [("errors.errorType", laid_errors_errorType)], narrowed := true }
def IsolateEdgesUptoSaid : Prop := isolateEdgesUptoRow.holds Tryd.pinned (OpenSpec.upto isolateEdgesSpec)

/-- 'testimonylaw.IsolateFinds', WHERE WHAT IT READS IS OF BULK AT MOST 1048576: true; the input reads as it did. -/
def isolateFindsUptoRow : OpenClaim := { program := "ytodanhjookgbeaadoor", sum := "c33bab563c906d7b96f98c04d748c1c49e1decbc66df76b69feabd1b6c06b202", func := "testimony/testimonylaw.IsolateFinds", spec := "isolateFinds", inPlace := ["internal/reflectlite.ValueOf", "(internal/reflectlite.Value).Type", "(internal/reflectlite.Value).IsNil", "internal/reflectlite.TypeOf", "(internal/reflectlite.Value).Elem", "(internal/reflectlite.Value).Set"], unfollowed := true, recurses := true, named := ["errors.errorType"], apart := false, laid := [("errors.errorType", laid_errors_errorType)], narrowed := true }
def IsolateFindsUptoSaid : Prop := isolateFindsUptoRow.holds Tryd.pinned (OpenSpec.upto isolateFindsSpec)

/-- 'testimonylaw.IsolateSerial', WHERE WHAT IT READS IS OF BULK AT MOST 1048576: true; the input reads as it did. -/
def isolateSerialUptoRow : OpenClaim := { program := "ytodanhjookgbeaadoor", sum := "c33bab563c906d7b96f98c04d748c1c49e1decbc66df76b69feabd1b6c06b202", func := "testimony/testimonylaw.IsolateSerial", spec := "isolateSerial", inPlace := ["internal/reflectlite.ValueOf", "(internal/reflectlite.Value).Type", "(internal/reflectlite.Value).IsNil", "internal/reflectlite.TypeOf", "(internal/reflectlite.Value).Elem", "(internal/reflectlite.Value).Set"], unfollowed := true, recurses := true, named := ["errors.errorType"], apart := false, laid := [("errors.errorType", laid_errors_errorType)], narrowed := true }
def IsolateSerialUptoSaid : Prop := isolateSerialUptoRow.holds Tryd.pinned (OpenSpec.upto isolateSerialSpec)

end Rows
end Go.Proofs.YtodanhjookgbeaaDoor
