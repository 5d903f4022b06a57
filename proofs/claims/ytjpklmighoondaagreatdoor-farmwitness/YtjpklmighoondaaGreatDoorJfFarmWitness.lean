/-
  The closed facts of the row of FarmWitness, one by one.
-/
import Derived.Test.YtjpklmighoondaaGreatDoorRows
import Derived.JoinedOf
import Derived.ProofKit
namespace Go.Proofs.YtjpklmighoondaaGreatDoor
open Go.ChangeShapes Go.WideShapes Go.ChangeAt Go.RowKit
theorem farmWitnessJ0:(Rows.farmWitnessRow.wf (OpenSpec.ofChange Rows.farmWitnessSpec))=true:=by kernel_rfl
theorem farmWitnessJ1:(laidOutB Tryz.pinned.checked.prog)=true:=by kernel_rfl
theorem farmWitnessJ2:(mapsRowed Tryz.pinned.checked.prog)=true:=by kernel_rfl
theorem farmWitnessJ3:(Tryz.f5.params.all (Tryz.pinned.checked.prog.readableRec ·))=true:=by kernel_rfl
theorem farmWitnessJ4:(namedTie Tryz.pinned.checked.prog Rows.farmWitnessRow.named Rows.farmWitnessSpec.vars)=true:=by kernel_rfl
theorem farmWitnessJ5:(Rows.farmWitnessRow.stops== [])=true:=by kernel_rfl
theorem farmWitnessJ6:(Tryz.pinned.checked.prog.stops== [])=true:=by kernel_rfl
theorem farmWitnessJ7:(Rows.farmWitnessRow.knobs== [])=true:=by kernel_rfl
theorem farmWitnessJ8:(Tryz.pinned.checked.prog.stopKnobs== [])=true:=by kernel_rfl
theorem farmWitnessJ9:(Rows.farmWitnessRow.inPlace==Tryz.pinned.checked.prog.inPlace (5:Nat))=true:=by kernel_rfl
theorem farmWitnessJ10:(Rows.farmWitnessRow.unfollowed==Tryz.pinned.checked.prog.unfollowed (5:Nat))=true:=by kernel_rfl
theorem farmWitnessJ11:(Rows.farmWitnessRow.recurses==Tryz.pinned.checked.prog.recurses (5:Nat))=true:=by kernel_rfl
theorem farmWitnessJ12:(Rows.farmWitnessRow.named==Tryz.pinned.checked.prog.varsNamed (5:Nat))=true:=by kernel_rfl
theorem farmWitnessJ13:(Rows.farmWitnessRow.maps==(Tryz.f5.params.toList++Rows.farmWitnessSpec.plain.varTypes Tryz.pinned.checked.prog).any (Tryz.pinned.checked.prog.mapsRec ·))=true:=by kernel_rfl
theorem farmWitnessJ14:(Rows.farmWitnessRow.ifaces==(Tryz.f5.params.toList++Rows.farmWitnessSpec.plain.varTypes Tryz.pinned.checked.prog).any (Tryz.pinned.checked.prog.ifacesRec ·))=true:=by kernel_rfl
theorem farmWitnessJ15:(Rows.farmWitnessRow.mapsOut==Tryz.pinned.checked.prog.mapsAmong Tryz.f5.resultTypes.toList)=true:=by kernel_rfl
theorem farmWitnessJ16:(Rows.farmWitnessRow.loops==(Tryz.f5.params.toList++Rows.farmWitnessSpec.plain.varTypes Tryz.pinned.checked.prog).any (Tryz.pinned.checked.prog.loopsFrom ·))=true:=by kernel_rfl
theorem farmWitnessJ17:(Rows.farmWitnessRow.wideKeys==(Tryz.f5.params.toList++Rows.farmWitnessSpec.plain.varTypes Tryz.pinned.checked.prog++Tryz.f5.resultTypes.toList).any (Tryz.pinned.checked.prog.wideKeysFrom ·))=true:=by kernel_rfl
theorem farmWitnessJ18:(Rows.farmWitnessSpec.vars.all (Tryz.pinned.checked.prog.varReadable ·))=true:=by kernel_rfl
theorem farmWitnessJ19:(Tryz.f5.resultTypes.all (fun t=>Tryz.pinned.checked.prog.readableRec t&&decide (t < Tryz.pinned.checked.prog.types.size)))=true:=by kernel_rfl
theorem farmWitnessJ20:(Rows.farmWitnessRow.ifacesOut==Tryz.f5.resultTypes.toList.any (Tryz.pinned.checked.prog.ifacesRec ·))=true:=by kernel_rfl
theorem farmWitnessJ21:(Rows.farmWitnessRow.loopsOut==Tryz.f5.resultTypes.toList.any (Tryz.pinned.checked.prog.loopsFrom ·))=true:=by kernel_rfl
theorem farmWitnessJ22:(Rows.farmWitnessRow.plainKeys==Tryz.pinned.checked.prog.plainKeys)=true:=by kernel_rfl
theorem farmWitnessJ23:Rows.farmWitnessRow.shortTexts.isNone=true:=by kernel_rfl
theorem farmWitnessJ24:Tryz.pinned.checked.prog.stopsHeard=true:=by kernel_rfl
theorem farmWitnessJ25:Tryz.pinned.checked.prog.mayEnter=true:=by kernel_rfl
theorem farmWitnessJ26:(Rows.farmWitnessRow.lifted==Tryz.pinned.checked.prog.liftsFinal)=true:=by kernel_rfl
theorem farmWitnessJ27:(Tryz.pinned.checked.prog.make==some Rows.farmWitnessRow.make)=true:=by kernel_rfl
theorem farmWitnessJ28:(Rows.farmWitnessRow.kinds==(if Rows.farmWitnessRow.domain.isEmpty then [] else Tryz.f5.params.toList.map fun t=>match Tryz.pinned.checked.prog.underlying t with | some (.int k)=>some k | _=>none))=true:=by kernel_rfl
theorem farmWitnessJ29:(Rows.farmWitnessRow.pinned==Rows.farmWitnessRow.pinnedBy)=true:=by kernel_rfl
theorem farmWitnessJ30:(Rows.farmWitnessRow.veiled==(Tryz.f5.params.toList++Rows.farmWitnessSpec.plain.varTypes Tryz.pinned.checked.prog++Tryz.f5.resultTypes.toList).any (Tryz.pinned.checked.prog.veiledRec ·))=true:=by kernel_rfl
theorem farmWitnessJ31:(Rows.farmWitnessRow.veiledFits Tryz.pinned.checked.prog Tryz.f5.params.toList (Tryz.f5.params.toList++Rows.farmWitnessSpec.plain.varTypes Tryz.pinned.checked.prog++Tryz.f5.resultTypes.toList))=true:=by kernel_rfl
theorem andT {a b:Bool} (h1:a=true) (h2:b=true):(a&&b)=true:=by rw[h1,h2];rfl
set_option maxRecDepth 100000 in
theorem farmWitness_joined:joinedFacts Tryz.pinned.checked.prog 5 Tryz.f5 Rows.farmWitnessSpec Rows.farmWitnessRow=true:=by
 unfold joinedFacts;exact andT (andT (andT (andT (andT (andT (andT (andT (andT (andT (andT (andT (andT (andT (andT (andT (andT (andT (andT (andT (andT (andT (andT (andT (andT (andT (andT (andT (andT (andT (andT (farmWitnessJ0) farmWitnessJ1) farmWitnessJ2) farmWitnessJ3) farmWitnessJ4) farmWitnessJ5) farmWitnessJ6) farmWitnessJ7) farmWitnessJ8) farmWitnessJ9) farmWitnessJ10) farmWitnessJ11) farmWitnessJ12) farmWitnessJ13) farmWitnessJ14) farmWitnessJ15) farmWitnessJ16) farmWitnessJ17) farmWitnessJ18) farmWitnessJ19) farmWitnessJ20) farmWitnessJ21) farmWitnessJ22) farmWitnessJ23) farmWitnessJ24) farmWitnessJ25) farmWitnessJ26) farmWitnessJ27) farmWitnessJ28) farmWitnessJ29) farmWitnessJ30) farmWitnessJ31
end Go.Proofs.YtjpklmighoondaaGreatDoor
