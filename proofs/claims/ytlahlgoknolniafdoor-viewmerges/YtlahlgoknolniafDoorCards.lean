/-
  DERIVED. GIVEN WITH THE SEED: THE CARDS: each row of YtlahlgoknolniafDoorRows.lean that lists a variable, with what it lists TIED to the program's text (the seventh form; the later family's looks); each row that meets fmt, with fmt's text TOLD by the authors' own Lean function (tested against real Go, not proved from fmt's source: count such statements apart). THE CARD IS WHAT COUNTS. Prove the row's statement (the work); the ties are given (YtlahlgoknolniafDoorTie.lean); close each card by the builder's one call (the guide's Derived/Test/ToyasCard.lean, 'card_holds'). Laid BY PROGRAM, IN A SANDBOX (cutbox-door.mjs). By AI agents, Wed Nov 11 2026. No macro, syntax, notation, axiom, sorry.
-/
import Derived.Test.YtlahlgoknolniafDoorRows
import GoSem.ClaimSeven
namespace Go.Proofs.YtlahlgoknolniafDoor
namespace Rows

/-- THE TIED CARD OF 'choirlaw2.OutPlays'. -/
def outPlaysCard : Claim7 := { stood := { row := outPlaysRow, standIns := [], harness := (true, "90f28096da4862256817d0e08078a283f9a1f58890362aef0094dbbdc029b5d9"), looks := true }, kinds := [], alts := [], laidByText := true, laidKinds := [.handle], laidTests := true, laidLooks := .later }
def OutPlaysCardSaid : Prop := Claim7.holds Tryd.pinned (.plain (OpenSpec.ofChange outPlaysSpec)) outPlaysCard

/-- THE TIED CARD OF 'choirlaw2.ViewMerges'. -/
def viewMergesCard : Claim7 := { stood := { row := viewMergesRow, standIns := [], harness := (true, "90f28096da4862256817d0e08078a283f9a1f58890362aef0094dbbdc029b5d9"), looks := true }, kinds := [], alts := [], laidByText := true, laidKinds := [.handle], laidTests := true, laidLooks := .later }
def ViewMergesCardSaid : Prop := Claim7.holds Tryd.pinned (.plain (OpenSpec.ofChange viewMergesSpec)) viewMergesCard

/-- THE SECOND FORM's CARD OF 'choirlaw2.OutPlays'. -/
def outPlaysUptoCard : Claim7 := { stood := { row := outPlaysUptoRow, standIns := [], harness := (true, "90f28096da4862256817d0e08078a283f9a1f58890362aef0094dbbdc029b5d9"), looks := true }, kinds := [], alts := [], laidByText := true, laidKinds := [.handle], laidTests := true, laidLooks := .later }
def OutPlaysUptoCardSaid : Prop := Claim7.holds Tryd.pinned (.plain (OpenSpec.upto outPlaysSpec)) outPlaysUptoCard

/-- THE SECOND FORM's CARD OF 'choirlaw2.ViewMerges'. -/
def viewMergesUptoCard : Claim7 := { stood := { row := viewMergesUptoRow, standIns := [], harness := (true, "90f28096da4862256817d0e08078a283f9a1f58890362aef0094dbbdc029b5d9"), looks := true }, kinds := [], alts := [], laidByText := true, laidKinds := [.handle], laidTests := true, laidLooks := .later }
def ViewMergesUptoCardSaid : Prop := Claim7.holds Tryd.pinned (.plain (OpenSpec.upto viewMergesSpec)) viewMergesUptoCard
end Rows
end Go.Proofs.YtlahlgoknolniafDoor
