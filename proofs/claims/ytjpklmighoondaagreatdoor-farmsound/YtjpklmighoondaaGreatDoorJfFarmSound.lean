/-
  The closed facts of the row of FarmSound, one by one.
-/
import Derived.Test.YtjpklmighoondaaGreatDoorRows
import Derived.JoinedOf
import Derived.ProofKit
namespace Go.Proofs.YtjpklmighoondaaGreatDoor
open Go.ChangeShapes Go.WideShapes Go.ChangeAt Go.RowKit
theorem farmSoundJ0:(Rows.farmSoundRow.wf (OpenSpec.ofChange Rows.farmSoundSpec))=true:=by kernel_rfl
theorem farmSoundJ1:(laidOutB Tryz.pinned.checked.prog)=true:=by kernel_rfl
theorem farmSoundJ2:(mapsRowed Tryz.pinned.checked.prog)=true:=by kernel_rfl
theorem farmSoundJ3:(Tryz.f3.params.all (Tryz.pinned.checked.prog.readableRec ·))=true:=by kernel_rfl
theorem farmSoundJ4:(namedTie Tryz.pinned.checked.prog Rows.farmSoundRow.named Rows.farmSoundSpec.vars)=true:=by kernel_rfl
theorem farmSoundJ5:(Rows.farmSoundRow.stops== [])=true:=by kernel_rfl
theorem farmSoundJ6:(Tryz.pinned.checked.prog.stops== [])=true:=by kernel_rfl
theorem farmSoundJ7:(Rows.farmSoundRow.knobs== [])=true:=by kernel_rfl
theorem farmSoundJ8:(Tryz.pinned.checked.prog.stopKnobs== [])=true:=by kernel_rfl
theorem farmSoundJ9:(Rows.farmSoundRow.inPlace==Tryz.pinned.checked.prog.inPlace (3:Nat))=true:=by kernel_rfl
theorem farmSoundJ10:(Rows.farmSoundRow.unfollowed==Tryz.pinned.checked.prog.unfollowed (3:Nat))=true:=by kernel_rfl
theorem farmSoundJ11:(Rows.farmSoundRow.recurses==Tryz.pinned.checked.prog.recurses (3:Nat))=true:=by kernel_rfl
theorem farmSoundJ12:(Rows.farmSoundRow.named==Tryz.pinned.checked.prog.varsNamed (3:Nat))=true:=by kernel_rfl
theorem farmSoundJ13:(Rows.farmSoundRow.maps==(Tryz.f3.params.toList++Rows.farmSoundSpec.plain.varTypes Tryz.pinned.checked.prog).any (Tryz.pinned.checked.prog.mapsRec ·))=true:=by kernel_rfl
theorem farmSoundJ14:(Rows.farmSoundRow.ifaces==(Tryz.f3.params.toList++Rows.farmSoundSpec.plain.varTypes Tryz.pinned.checked.prog).any (Tryz.pinned.checked.prog.ifacesRec ·))=true:=by kernel_rfl
theorem farmSoundJ15:(Rows.farmSoundRow.mapsOut==Tryz.pinned.checked.prog.mapsAmong Tryz.f3.resultTypes.toList)=true:=by kernel_rfl
theorem farmSoundJ16:(Rows.farmSoundRow.loops==(Tryz.f3.params.toList++Rows.farmSoundSpec.plain.varTypes Tryz.pinned.checked.prog).any (Tryz.pinned.checked.prog.loopsFrom ·))=true:=by kernel_rfl
theorem farmSoundJ17:(Rows.farmSoundRow.wideKeys==(Tryz.f3.params.toList++Rows.farmSoundSpec.plain.varTypes Tryz.pinned.checked.prog++Tryz.f3.resultTypes.toList).any (Tryz.pinned.checked.prog.wideKeysFrom ·))=true:=by kernel_rfl
theorem farmSoundJ18:(Rows.farmSoundSpec.vars.all (Tryz.pinned.checked.prog.varReadable ·))=true:=by kernel_rfl
theorem farmSoundJ19:(Tryz.f3.resultTypes.all (fun t=>Tryz.pinned.checked.prog.readableRec t&&decide (t < Tryz.pinned.checked.prog.types.size)))=true:=by kernel_rfl
theorem farmSoundJ20:(Rows.farmSoundRow.ifacesOut==Tryz.f3.resultTypes.toList.any (Tryz.pinned.checked.prog.ifacesRec ·))=true:=by kernel_rfl
theorem farmSoundJ21:(Rows.farmSoundRow.loopsOut==Tryz.f3.resultTypes.toList.any (Tryz.pinned.checked.prog.loopsFrom ·))=true:=by kernel_rfl
theorem farmSoundJ22:(Rows.farmSoundRow.plainKeys==Tryz.pinned.checked.prog.plainKeys)=true:=by kernel_rfl
theorem farmSoundJ23:Rows.farmSoundRow.shortTexts.isNone=true:=by kernel_rfl
theorem farmSoundJ24:Tryz.pinned.checked.prog.stopsHeard=true:=by kernel_rfl
theorem farmSoundJ25:Tryz.pinned.checked.prog.mayEnter=true:=by kernel_rfl
theorem farmSoundJ26:(Rows.farmSoundRow.lifted==Tryz.pinned.checked.prog.liftsFinal)=true:=by kernel_rfl
theorem farmSoundJ27:(Tryz.pinned.checked.prog.make==some Rows.farmSoundRow.make)=true:=by kernel_rfl
theorem farmSoundJ28:(Rows.farmSoundRow.kinds==(if Rows.farmSoundRow.domain.isEmpty then [] else Tryz.f3.params.toList.map fun t=>match Tryz.pinned.checked.prog.underlying t with | some (.int k)=>some k | _=>none))=true:=by kernel_rfl
theorem farmSoundJ29:(Rows.farmSoundRow.pinned==Rows.farmSoundRow.pinnedBy)=true:=by kernel_rfl
theorem farmSoundJ30:(Rows.farmSoundRow.veiled==(Tryz.f3.params.toList++Rows.farmSoundSpec.plain.varTypes Tryz.pinned.checked.prog++Tryz.f3.resultTypes.toList).any (Tryz.pinned.checked.prog.veiledRec ·))=true:=by kernel_rfl
theorem farmSoundJ31:(Rows.farmSoundRow.veiledFits Tryz.pinned.checked.prog Tryz.f3.params.toList (Tryz.f3.params.toList++Rows.farmSoundSpec.plain.varTypes Tryz.pinned.checked.prog++Tryz.f3.resultTypes.toList))=true:=by kernel_rfl
theorem andT {a b:Bool} (h1:a=true) (h2:b=true):(a&&b)=true:=by rw[h1,h2];rfl
set_option maxRecDepth 100000 in
theorem farmSound_joined:joinedFacts Tryz.pinned.checked.prog 3 Tryz.f3 Rows.farmSoundSpec Rows.farmSoundRow=true:=by
 unfold joinedFacts;exact andT (andT (andT (andT (andT (andT (andT (andT (andT (andT (andT (andT (andT (andT (andT (andT (andT (andT (andT (andT (andT (andT (andT (andT (andT (andT (andT (andT (andT (andT (andT (farmSoundJ0) farmSoundJ1) farmSoundJ2) farmSoundJ3) farmSoundJ4) farmSoundJ5) farmSoundJ6) farmSoundJ7) farmSoundJ8) farmSoundJ9) farmSoundJ10) farmSoundJ11) farmSoundJ12) farmSoundJ13) farmSoundJ14) farmSoundJ15) farmSoundJ16) farmSoundJ17) farmSoundJ18) farmSoundJ19) farmSoundJ20) farmSoundJ21) farmSoundJ22) farmSoundJ23) farmSoundJ24) farmSoundJ25) farmSoundJ26) farmSoundJ27) farmSoundJ28) farmSoundJ29) farmSoundJ30) farmSoundJ31
end Go.Proofs.YtjpklmighoondaaGreatDoor
