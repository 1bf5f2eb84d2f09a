/-
  DERIVED. GIVEN WITH THE SEED: THE CARDS: each row of YtblmjllignibgafDoorRows.lean that lists a variable, with what it lists TIED to the program's text (the seventh form; the later family's looks); each row that meets fmt, with fmt's text TOLD by the authors' own Lean function (tested against real Go, not proved from fmt's source: count such statements apart). THE CARD IS WHAT COUNTS. Prove the row's statement (the work); the ties are given (YtblmjllignibgafDoorTie.lean); close each card by the builder's one call (the guide's Derived/Test/ToyasCard.lean, 'card_holds'). Laid BY PROGRAM, IN A SANDBOX (cutbox-door.mjs). By AI agents, Wed Nov 11 2026. No macro, syntax, notation, axiom, sorry.
-/
import Derived.Test.YtblmjllignibgafDoorRows
import GoSem.ClaimSeven
namespace Go.Proofs.YtblmjllignibgafDoor
namespace Rows

/-- THE TIED CARD OF 'choirlaw2.OutPlays'. -/
def outPlaysCard : Claim7 := { stood := { row := outPlaysRow, standIns := [], harness := (true, "d2d4c126291449ee82e97c0c578d1394277e35388bc0f411c49cf6e06d84d5d7"), looks := true }, kinds := [], alts := [], laidByText := true, laidKinds := [.handle], laidTests := true, laidLooks := .later }
def OutPlaysCardSaid : Prop := Claim7.holds Tryd.pinned (.plain (OpenSpec.ofChange outPlaysSpec)) outPlaysCard

/-- THE SECOND FORM's CARD OF 'choirlaw2.OutPlays'. -/
def outPlaysUptoCard : Claim7 := { stood := { row := outPlaysUptoRow, standIns := [], harness := (true, "d2d4c126291449ee82e97c0c578d1394277e35388bc0f411c49cf6e06d84d5d7"), looks := true }, kinds := [], alts := [], laidByText := true, laidKinds := [.handle], laidTests := true, laidLooks := .later }
def OutPlaysUptoCardSaid : Prop := Claim7.holds Tryd.pinned (.plain (OpenSpec.upto outPlaysSpec)) outPlaysUptoCard
end Rows
end Go.Proofs.YtblmjllignibgafDoor
