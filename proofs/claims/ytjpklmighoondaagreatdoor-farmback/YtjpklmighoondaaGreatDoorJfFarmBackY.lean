/-
  The closed facts of the row of FarmBack, one by one.
-/
import Derived.Test.YtjpklmighoondaaGreatDoorRows
import Derived.JoinedOf
import Derived.ProofKit
namespace Go.Proofs.YtjpklmighoondaaGreatDoor
open Go.ChangeShapes Go.WideShapes Go.ChangeAt Go.RowKit
theorem farmBackJ0:(Rows.farmBackRow.wf (OpenSpec.ofChange Rows.farmBackSpec))=true:=by kernel_rfl
theorem farmBackJ1:(laidOutB Tryz.pinned.checked.prog)=true:=by kernel_rfl
theorem farmBackJ2:(mapsRowed Tryz.pinned.checked.prog)=true:=by kernel_rfl
theorem farmBackJ3:(Tryz.f4.params.all (Tryz.pinned.checked.prog.readableRec ·))=true:=by kernel_rfl
theorem farmBackJ4:(namedTie Tryz.pinned.checked.prog Rows.farmBackRow.named Rows.farmBackSpec.vars)=true:=by kernel_rfl
theorem farmBackJ5:(Rows.farmBackRow.stops== [])=true:=by kernel_rfl
theorem farmBackJ6:(Tryz.pinned.checked.prog.stops== [])=true:=by kernel_rfl
theorem farmBackJ7:(Rows.farmBackRow.knobs== [])=true:=by kernel_rfl
theorem farmBackJ8:(Tryz.pinned.checked.prog.stopKnobs== [])=true:=by kernel_rfl
theorem farmBackJ9:(Rows.farmBackRow.inPlace==Tryz.pinned.checked.prog.inPlace (4:Nat))=true:=by kernel_rfl
theorem farmBackJ10:(Rows.farmBackRow.unfollowed==Tryz.pinned.checked.prog.unfollowed (4:Nat))=true:=by kernel_rfl
theorem farmBackJ11:(Rows.farmBackRow.recurses==Tryz.pinned.checked.prog.recurses (4:Nat))=true:=by kernel_rfl
theorem farmBackJ12:(Rows.farmBackRow.named==Tryz.pinned.checked.prog.varsNamed (4:Nat))=true:=by kernel_rfl
theorem farmBackJ13:(Rows.farmBackRow.maps==(Tryz.f4.params.toList++Rows.farmBackSpec.plain.varTypes Tryz.pinned.checked.prog).any (Tryz.pinned.checked.prog.mapsRec ·))=true:=by kernel_rfl
theorem farmBackJ14:(Rows.farmBackRow.ifaces==(Tryz.f4.params.toList++Rows.farmBackSpec.plain.varTypes Tryz.pinned.checked.prog).any (Tryz.pinned.checked.prog.ifacesRec ·))=true:=by kernel_rfl
theorem farmBackJ15:(Rows.farmBackRow.mapsOut==Tryz.pinned.checked.prog.mapsAmong Tryz.f4.resultTypes.toList)=true:=by kernel_rfl
theorem farmBackJ16:(Rows.farmBackRow.loops==(Tryz.f4.params.toList++Rows.farmBackSpec.plain.varTypes Tryz.pinned.checked.prog).any (Tryz.pinned.checked.prog.loopsFrom ·))=true:=by kernel_rfl
theorem farmBackJ17:(Rows.farmBackRow.wideKeys==(Tryz.f4.params.toList++Rows.farmBackSpec.plain.varTypes Tryz.pinned.checked.prog++Tryz.f4.resultTypes.toList).any (Tryz.pinned.checked.prog.wideKeysFrom ·))=true:=by kernel_rfl
theorem farmBackJ18:(Rows.farmBackSpec.vars.all (Tryz.pinned.checked.prog.varReadable ·))=true:=by kernel_rfl
theorem farmBackJ19:(Tryz.f4.resultTypes.all (fun t=>Tryz.pinned.checked.prog.readableRec t&&decide (t < Tryz.pinned.checked.prog.types.size)))=true:=by kernel_rfl
theorem farmBackJ20:(Rows.farmBackRow.ifacesOut==Tryz.f4.resultTypes.toList.any (Tryz.pinned.checked.prog.ifacesRec ·))=true:=by kernel_rfl
theorem farmBackJ21:(Rows.farmBackRow.loopsOut==Tryz.f4.resultTypes.toList.any (Tryz.pinned.checked.prog.loopsFrom ·))=true:=by kernel_rfl
theorem farmBackJ22:(Rows.farmBackRow.plainKeys==Tryz.pinned.checked.prog.plainKeys)=true:=by kernel_rfl
theorem farmBackJ23:Rows.farmBackRow.shortTexts.isNone=true:=by kernel_rfl
theorem farmBackJ24:Tryz.pinned.checked.prog.stopsHeard=true:=by kernel_rfl
theorem farmBackJ25:Tryz.pinned.checked.prog.mayEnter=true:=by kernel_rfl
theorem farmBackJ26:(Rows.farmBackRow.lifted==Tryz.pinned.checked.prog.liftsFinal)=true:=by kernel_rfl
theorem farmBackJ27:(Tryz.pinned.checked.prog.make==some Rows.farmBackRow.make)=true:=by kernel_rfl
theorem farmBackJ28:(Rows.farmBackRow.kinds==(if Rows.farmBackRow.domain.isEmpty then [] else Tryz.f4.params.toList.map fun t=>match Tryz.pinned.checked.prog.underlying t with | some (.int k)=>some k | _=>none))=true:=by kernel_rfl
theorem farmBackJ29:(Rows.farmBackRow.pinned==Rows.farmBackRow.pinnedBy)=true:=by kernel_rfl
theorem farmBackJ30:(Rows.farmBackRow.veiled==(Tryz.f4.params.toList++Rows.farmBackSpec.plain.varTypes Tryz.pinned.checked.prog++Tryz.f4.resultTypes.toList).any (Tryz.pinned.checked.prog.veiledRec ·))=true:=by kernel_rfl
theorem farmBackJ31:(Rows.farmBackRow.veiledFits Tryz.pinned.checked.prog Tryz.f4.params.toList (Tryz.f4.params.toList++Rows.farmBackSpec.plain.varTypes Tryz.pinned.checked.prog++Tryz.f4.resultTypes.toList))=true:=by kernel_rfl
theorem andT {a b:Bool} (h1:a=true) (h2:b=true):(a&&b)=true:=by rw[h1,h2];rfl
set_option maxRecDepth 100000 in
theorem farmBack_joined:joinedFacts Tryz.pinned.checked.prog 4 Tryz.f4 Rows.farmBackSpec Rows.farmBackRow=true:=by
 unfold joinedFacts;exact andT (andT (andT (andT (andT (andT (andT (andT (andT (andT (andT (andT (andT (andT (andT (andT (andT (andT (andT (andT (andT (andT (andT (andT (andT (andT (andT (andT (andT (andT (andT (farmBackJ0) farmBackJ1) farmBackJ2) farmBackJ3) farmBackJ4) farmBackJ5) farmBackJ6) farmBackJ7) farmBackJ8) farmBackJ9) farmBackJ10) farmBackJ11) farmBackJ12) farmBackJ13) farmBackJ14) farmBackJ15) farmBackJ16) farmBackJ17) farmBackJ18) farmBackJ19) farmBackJ20) farmBackJ21) farmBackJ22) farmBackJ23) farmBackJ24) farmBackJ25) farmBackJ26) farmBackJ27) farmBackJ28) farmBackJ29) farmBackJ30) farmBackJ31
end Go.Proofs.YtjpklmighoondaaGreatDoor
