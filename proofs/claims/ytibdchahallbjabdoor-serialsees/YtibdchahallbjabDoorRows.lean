/-
  NARROWER THAN 'FOR EVERY INPUT', by the rows' own cells (each row's printed sentence says how): SerialClashes: laid · SerialSees: laid · SerialCareful: laid · SerialBernstein: laid · SerialOne: laid · SerialKinds: laid.
  DERIVED. THE GIVEN ROWS OF THIS SEAT. 6 by the template 'for every input the law returns true; each argument reads behind the call as it read before'; 0 by the template 'total and deterministic' (their statements: YtibdchahallbjabDoorTotals.lean).
  GIVEN WITH THE SEED: the statements are not yours to turn. If you find one false, say at which input.
  Laid BY PROGRAM, IN A SANDBOX (cutbox-rows.mjs): the forced cells as the released guide's own fill.sh prints them over the translation e05b5e37c815e74c… (all of the seat's roots in one cut). By AI agents, Wed Nov 11 2026. No macro, syntax, notation, axiom, sorry.
-/
import Derived.Test.YtibdchahallbjabDoorChecked
import GoSem.Claim
import GoSem.ClaimJoined
import GoSem.ClaimMapViews
import Derived.JoinedTies
import Derived.KernelRfl
namespace Go.Proofs.YtibdchahallbjabDoor
/- THE CELL 'sum', in the pinned program and in every row, IS THE sha256 OF THE DUMP (.gsa) THAT YtibdchahallbjabDoorProg.lean LOADS. Nothing in Lean hashes anything: it is a label: what it is worth is what the hold of that sum in a sandbox is worth. -/
noncomputable def Tryd.pinned : Pinned := { name := "ytibdchahallbjabdoor", sum := "e05b5e37c815e74c8a16355c0b463e373fc2044d5adf322acf8c6fc9ebb1420e", checked := Tryd.checked }
namespace Rows
def none {H : Type} : Left H := { results := [], args := [] }

/- WHAT THE LISTED PACKAGE-LEVEL VARIABLES READ AS WHEN THE CALL BEGINS. Each datum BY PROGRAM (the guide's laid-datum.mjs) off the statement by which the dump's own 'gosem.cut.vars' lays the variable. In a bare row this is a premise. The card (YtibdchahallbjabDoorCards.lean) ties it to the program's text. -/
def laid_errors_errorType {H : Type} : DataW H := .iface "internal/reflectlite.rtype" (.agg [.ptr (.lit (.string [101, 114, 114, 111, 114]))])
def laid_testimony_testimonyref_Fine {H : Type} : DataW H := .agg [.lit (.int .i64 0), .lit (.int .i64 (-1))]

/-- 'testimonylaw.SerialClashes': WHATEVER THE INPUT: true; the input reads as it did. -/
def serialClashesSpec : ChangeSpec := { name := "serialClashes", fn := fun _ => fun
  | [d] => { results := [.lit (.bool true)], args := [d] }
  | _ => none }
def serialClashesRow : OpenClaim := { program := "ytibdchahallbjabdoor", sum := "e05b5e37c815e74c8a16355c0b463e373fc2044d5adf322acf8c6fc9ebb1420e", func := "testimony/testimonylaw.SerialClashes", spec := "serialClashes", inPlace := ["internal/reflectlite.ValueOf", "(internal/reflectlite.Value).Type", "(internal/reflectlite.Value).IsNil", "internal/reflectlite.TypeOf", "(internal/reflectlite.Value).Elem", "(internal/reflectlite.Value).Set"], unfollowed := true, recurses := true, named := ["testimony/testimonyref.Fine", "errors.errorType"], plainKeys := false, apart := false, laid := [("errors.errorType", laid_errors_errorType), ("testimony/testimonyref.Fine", laid_testimony_testimonyref_Fine)] }
def SerialClashesSaid : Prop := serialClashesRow.holds Tryd.pinned (OpenSpec.ofChange serialClashesSpec)

/-- ITS FALSE NEIGHBOUR: 'it returns false'. Refute it at one input. -/
def serialClashesWrong : ChangeSpec := { name := "serialClashes", fn := fun _ => fun
  | [d] => { results := [.lit (.bool false)], args := [d] }
  | _ => none }
def SerialClashesWrongFalsely : Prop := serialClashesRow.holds Tryd.pinned (OpenSpec.ofChange serialClashesWrong)

/-- 'testimonylaw.SerialSees': WHATEVER THE INPUT: true; the input reads as it did. -/
def serialSeesSpec : ChangeSpec := { name := "serialSees", fn := fun _ => fun
  | [d] => { results := [.lit (.bool true)], args := [d] }
  | _ => none }
def serialSeesRow : OpenClaim := { program := "ytibdchahallbjabdoor", sum := "e05b5e37c815e74c8a16355c0b463e373fc2044d5adf322acf8c6fc9ebb1420e", func := "testimony/testimonylaw.SerialSees", spec := "serialSees", inPlace := ["internal/reflectlite.ValueOf", "(internal/reflectlite.Value).Type", "(internal/reflectlite.Value).IsNil", "internal/reflectlite.TypeOf", "(internal/reflectlite.Value).Elem", "(internal/reflectlite.Value).Set"], unfollowed := true, recurses := true, named := ["testimony/testimonyref.Fine", "errors.errorType"], plainKeys := false, apart := false, laid := [("errors.errorType", laid_errors_errorType), ("testimony/testimonyref.Fine", laid_testimony_testimonyref_Fine)] }
def SerialSeesSaid : Prop := serialSeesRow.holds Tryd.pinned (OpenSpec.ofChange serialSeesSpec)

/-- ITS FALSE NEIGHBOUR: 'it returns false'. Refute it at one input. -/
def serialSeesWrong : ChangeSpec := { name := "serialSees", fn := fun _ => fun
  | [d] => { results := [.lit (.bool false)], args := [d] }
  | _ => none }
def SerialSeesWrongFalsely : Prop := serialSeesRow.holds Tryd.pinned (OpenSpec.ofChange serialSeesWrong)

/-- 'testimonylaw.SerialCareful': WHATEVER THE INPUT: true; the input reads as it did. -/
def serialCarefulSpec : ChangeSpec := { name := "serialCareful", fn := fun _ => fun
  | [d] => { results := [.lit (.bool true)], args := [d] }
  | _ => none }
def serialCarefulRow : OpenClaim := { program := "ytibdchahallbjabdoor", sum := "e05b5e37c815e74c8a16355c0b463e373fc2044d5adf322acf8c6fc9ebb1420e", func := "testimony/testimonylaw.SerialCareful", spec := "serialCareful", inPlace := ["internal/reflectlite.ValueOf", "(internal/reflectlite.Value).Type", "(internal/reflectlite.Value).IsNil", "internal/reflectlite.TypeOf", "(internal/reflectlite.Value).Elem", "(internal/reflectlite.Value).Set"], unfollowed := true, recurses := true, named := ["testimony/testimonyref.Fine", "errors.errorType"], plainKeys := false, apart := false, laid := [("errors.errorType", laid_errors_errorType), ("testimony/testimonyref.Fine", laid_testimony_testimonyref_Fine)] }
def SerialCarefulSaid : Prop := serialCarefulRow.holds Tryd.pinned (OpenSpec.ofChange serialCarefulSpec)

/-- ITS FALSE NEIGHBOUR: 'it returns false'. Refute it at one input. -/
def serialCarefulWrong : ChangeSpec := { name := "serialCareful", fn := fun _ => fun
  | [d] => { results := [.lit (.bool false)], args := [d] }
  | _ => none }
def SerialCarefulWrongFalsely : Prop := serialCarefulRow.holds Tryd.pinned (OpenSpec.ofChange serialCarefulWrong)

/-- 'testimonykeep.SerialBernstein': WHATEVER THE INPUT: true; the input reads as it did. -/
def serialBernsteinSpec : ChangeSpec := { name := "serialBernstein", fn := fun _ => fun
  | [d] => { results := [.lit (.bool true)], args := [d] }
  | _ => none }
def serialBernsteinRow : OpenClaim := { program := "ytibdchahallbjabdoor", sum := "e05b5e37c815e74c8a16355c0b463e373fc2044d5adf322acf8c6fc9ebb1420e", func := "testimony/testimonykeep.SerialBernstein", spec := "serialBernstein", inPlace := ["internal/reflectlite.ValueOf", "(internal/reflectlite.Value).Type", "(internal/reflectlite.Value).IsNil", "internal/reflectlite.TypeOf", "(internal/reflectlite.Value).Elem", "(internal/reflectlite.Value).Set"], unfollowed := true, recurses := true, named := ["errors.errorType"], plainKeys := false, apart := false, laid := [("errors.errorType", laid_errors_errorType)] }
def SerialBernsteinSaid : Prop := serialBernsteinRow.holds Tryd.pinned (OpenSpec.ofChange serialBernsteinSpec)

/-- ITS FALSE NEIGHBOUR: 'it returns false'. Refute it at one input. -/
def serialBernsteinWrong : ChangeSpec := { name := "serialBernstein", fn := fun _ => fun
  | [d] => { results := [.lit (.bool false)], args := [d] }
  | _ => none }
def SerialBernsteinWrongFalsely : Prop := serialBernsteinRow.holds Tryd.pinned (OpenSpec.ofChange serialBernsteinWrong)

/-- 'testimonykeep.SerialOne': WHATEVER THE INPUT: true; the input reads as it did. -/
def serialOneSpec : ChangeSpec := { name := "serialOne", fn := fun _ => fun
  | [d1, d2] => { results := [.lit (.bool true)], args := [d1, d2] }
  | _ => none }
def serialOneRow : OpenClaim := { program := "ytibdchahallbjabdoor", sum := "e05b5e37c815e74c8a16355c0b463e373fc2044d5adf322acf8c6fc9ebb1420e", func := "testimony/testimonykeep.SerialOne", spec := "serialOne", inPlace := ["internal/reflectlite.ValueOf", "(internal/reflectlite.Value).Type", "(internal/reflectlite.Value).IsNil", "internal/reflectlite.TypeOf", "(internal/reflectlite.Value).Elem", "(internal/reflectlite.Value).Set"], unfollowed := true, recurses := true, named := ["errors.errorType"], plainKeys := false, apart := false, laid := [("errors.errorType", laid_errors_errorType)] }
def SerialOneSaid : Prop := serialOneRow.holds Tryd.pinned (OpenSpec.ofChange serialOneSpec)

/-- ITS FALSE NEIGHBOUR: 'it returns false'. Refute it at one input. -/
def serialOneWrong : ChangeSpec := { name := "serialOne", fn := fun _ => fun
  | [d1, d2] => { results := [.lit (.bool false)], args := [d1, d2] }
  | _ => none }
def SerialOneWrongFalsely : Prop := serialOneRow.holds Tryd.pinned (OpenSpec.ofChange serialOneWrong)

/-- 'testimonykeep.SerialKinds': WHATEVER THE INPUT: true; the input reads as it did. -/
def serialKindsSpec : ChangeSpec := { name := "serialKinds", fn := fun _ => fun
  | [d] => { results := [.lit (.bool true)], args := [d] }
  | _ => none }
def serialKindsRow : OpenClaim := { program := "ytibdchahallbjabdoor", sum := "e05b5e37c815e74c8a16355c0b463e373fc2044d5adf322acf8c6fc9ebb1420e", func := "testimony/testimonykeep.SerialKinds", spec := "serialKinds", inPlace := ["internal/reflectlite.ValueOf", "(internal/reflectlite.Value).Type", "(internal/reflectlite.Value).IsNil", "internal/reflectlite.TypeOf", "(internal/reflectlite.Value).Elem", "(internal/reflectlite.Value).Set"], unfollowed := true, recurses := true, named := ["errors.errorType"], plainKeys := false, apart := false, laid := [("errors.errorType", laid_errors_errorType)] }
def SerialKindsSaid : Prop := serialKindsRow.holds Tryd.pinned (OpenSpec.ofChange serialKindsSpec)

/-- ITS FALSE NEIGHBOUR: 'it returns false'. Refute it at one input. -/
def serialKindsWrong : ChangeSpec := { name := "serialKinds", fn := fun _ => fun
  | [d] => { results := [.lit (.bool false)], args := [d] }
  | _ => none }
def SerialKindsWrongFalsely : Prop := serialKindsRow.holds Tryd.pinned (OpenSpec.ofChange serialKindsWrong)

/- THE SECOND FORM. 'bulk': how many values and letters a reading holds, each counted each time it is reached (what is shared counts as often as it is met; a slice's spare places count too). A statement '..UptoSaid' is the law's where the arguments, and the package variables that the reading takes, are together of bulk at most 1048576: NARROWER than '..Said'. Prove '..Said' where nothing that the law and all that it calls make is longer than what came in: it says more and counts as full. Else prove '..UptoSaid'. A law counts once. -/
mutual
def uptoBulk {H : Type} : DataW H → Nat
  | .lit (.string bytes) => bytes.length + 1
  | .lit _ => 1
  | .nil => 1
  | .ptr d => uptoBulk d + 1
  | .slice elems spare => uptoBulkAll elems + uptoBulkAll spare + 1
  | .agg parts => uptoBulkAll parts + 1
  | .iface _ d => uptoBulk d + 1
  | .map entries => uptoBulkEntries entries + 1
  | .held _ => 1
def uptoBulkAll {H : Type} : List (DataW H) → Nat
  | [] => 0
  | d :: r => uptoBulk d + uptoBulkAll r
def uptoBulkEntries {H : Type} : List (Lit × DataW H) → Nat
  | [] => 0
  | x :: r => uptoBulkEntry x + uptoBulkEntries r
def uptoBulkEntry {H : Type} : Lit × DataW H → Nat
  | (.string bytes, d) => bytes.length + uptoBulk d + 1
  | (_, d) => uptoBulk d + 1
 end
def uptoSmall : (H : Type) → List (DataW H) → Bool := fun _ ds => decide (uptoBulkAll ds ≤ 1048576)
def OpenSpec.upto (s : _root_.Go.ChangeSpec) : _root_.Go.OpenSpec := { _root_.Go.OpenSpec.ofChange s with cond := some uptoSmall }

/-- 'testimonylaw.SerialClashes', WHERE WHAT IT READS IS OF BULK AT MOST 1048576: true; the input reads as it did. -/
def serialClashesUptoRow : OpenClaim := { program := "ytibdchahallbjabdoor", sum := "e05b5e37c815e74c8a16355c0b463e373fc2044d5adf322acf8c6fc9ebb1420e", func := "testimony/testimonylaw.SerialClashes", spec := "serialClashes", inPlace := ["internal/reflectlite.ValueOf", "(internal/reflectlite.Value).Type", "(internal/reflectlite.Value).IsNil", "internal/reflectlite.TypeOf", "(internal/reflectlite.Value).Elem", "(internal/reflectlite.Value).Set"], unfollowed := true, recurses := true, named := ["testimony/testimonyref.Fine", "errors.errorType"], plainKeys := false, apart := false, laid := [("errors.errorType", laid_errors_errorType), ("testimony/testimonyref.Fine", laid_testimony_testimonyref_Fine)], narrowed := true }
def SerialClashesUptoSaid : Prop := serialClashesUptoRow.holds Tryd.pinned (OpenSpec.upto serialClashesSpec)

/-- 'testimonylaw.SerialSees', WHERE WHAT IT READS IS OF BULK AT MOST 1048576: true; the input reads as it did. -/
def serialSeesUptoRow : OpenClaim := { program := "ytibdchahallbjabdoor", sum := "e05b5e37c815e74c8a16355c0b463e373fc2044d5adf322acf8c6fc9ebb1420e", func := "testimony/testimonylaw.SerialSees", spec := "serialSees", inPlace := ["internal/reflectlite.ValueOf", "(internal/reflectlite.Value).Type", "(internal/reflectlite.Value).IsNil", "internal/reflectlite.TypeOf", "(internal/reflectlite.Value).Elem", "(internal/reflectlite.Value).Set"], unfollowed := true, recurses := true, named := ["testimony/testimonyref.Fine", "errors.errorType"], plainKeys := false, apart := false, laid := [("errors.errorType", laid_errors_errorType), ("testimony/testimonyref.Fine", laid_testimony_testimonyref_Fine)], narrowed := true }
def SerialSeesUptoSaid : Prop := serialSeesUptoRow.holds Tryd.pinned (OpenSpec.upto serialSeesSpec)

/-- 'testimonylaw.SerialCareful', WHERE WHAT IT READS IS OF BULK AT MOST 1048576: true; the input reads as it did. -/
def serialCarefulUptoRow : OpenClaim := { program := "ytibdchahallbjabdoor", sum := "e05b5e37c815e74c8a16355c0b463e373fc2044d5adf322acf8c6fc9ebb1420e", func := "testimony/testimonylaw.SerialCareful", spec := "serialCareful", inPlace := ["internal/reflectlite.ValueOf", "(internal/reflectlite.Value).Type", "(internal/reflectlite.Value).IsNil", "internal/reflectlite.TypeOf", "(internal/reflectlite.Value).Elem", "(internal/reflectlite.Value).Set"], unfollowed := true, recurses := true, named := ["testimony/testimonyref.Fine", "errors.errorType"], plainKeys := false, apart := false, laid := [("errors.errorType", laid_errors_errorType), ("testimony/testimonyref.Fine", laid_testimony_testimonyref_Fine)], narrowed := true }
def SerialCarefulUptoSaid : Prop := serialCarefulUptoRow.holds Tryd.pinned (OpenSpec.upto serialCarefulSpec)

/-- 'testimonykeep.SerialBernstein', WHERE WHAT IT READS IS OF BULK AT MOST 1048576: true; the input reads as it did. -/
def serialBernsteinUptoRow : OpenClaim := { program := "ytibdchahallbjabdoor", sum := "e05b5e37c815e74c8a16355c0b463e373fc2044d5adf322acf8c6fc9ebb1420e", func := "testimony/testimonykeep.SerialBernstein", spec := "serialBernstein", inPlace := ["internal/reflectlite.ValueOf", "(internal/reflectlite.Value).Type", "(internal/reflectlite.Value).IsNil", "internal/reflectlite.TypeOf", "(internal/reflectlite.Value).Elem", "(internal/reflectlite.Value).Set"], unfollowed := true, recurses := true, named := ["errors.errorType"], plainKeys := false, apart := false, laid := [("errors.errorType", laid_errors_errorType)], narrowed := true }
def SerialBernsteinUptoSaid : Prop := serialBernsteinUptoRow.holds Tryd.pinned (OpenSpec.upto serialBernsteinSpec)

/-- 'testimonykeep.SerialOne', WHERE WHAT IT READS IS OF BULK AT MOST 1048576: true; the input reads as it did. -/
def serialOneUptoRow : OpenClaim := { program := "ytibdchahallbjabdoor", sum := "e05b5e37c815e74c8a16355c0b463e373fc2044d5adf322acf8c6fc9ebb1420e", func := "testimony/testimonykeep.SerialOne", spec := "serialOne", inPlace := ["internal/reflectlite.ValueOf", "(internal/reflectlite.Value).Type", "(internal/reflectlite.Value).IsNil", "internal/reflectlite.TypeOf", "(internal/reflectlite.Value).Elem", "(internal/reflectlite.Value).Set"], unfollowed := true, recurses := true, named := ["errors.errorType"], plainKeys := false, apart := false, laid := [("errors.errorType", laid_errors_errorType)], narrowed := true }
def SerialOneUptoSaid : Prop := serialOneUptoRow.holds Tryd.pinned (OpenSpec.upto serialOneSpec)

/-- 'testimonykeep.SerialKinds', WHERE WHAT IT READS IS OF BULK AT MOST 1048576: true; the input reads as it did. -/
def serialKindsUptoRow : OpenClaim := { program := "ytibdchahallbjabdoor", sum := "e05b5e37c815e74c8a16355c0b463e373fc2044d5adf322acf8c6fc9ebb1420e", func := "testimony/testimonykeep.SerialKinds", spec := "serialKinds", inPlace := ["internal/reflectlite.ValueOf", "(internal/reflectlite.Value).Type", "(internal/reflectlite.Value).IsNil", "internal/reflectlite.TypeOf", "(internal/reflectlite.Value).Elem", "(internal/reflectlite.Value).Set"], unfollowed := true, recurses := true, named := ["errors.errorType"], plainKeys := false, apart := false, laid := [("errors.errorType", laid_errors_errorType)], narrowed := true }
def SerialKindsUptoSaid : Prop := serialKindsUptoRow.holds Tryd.pinned (OpenSpec.upto serialKindsSpec)

end Rows
end Go.Proofs.YtibdchahallbjabDoor
