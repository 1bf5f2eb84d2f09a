/-
  DERIVED. GIVEN WITH THE SEED: THE CARDS: each row of YtfgponidkfgcpaaGreatDoorRows.lean that lists a variable, with what it lists TIED to the program's text (the seventh form; the later family's looks); each row that meets fmt, with fmt's text TOLD by the authors' own Lean function (tested against real Go, not proved from fmt's source: count such statements apart). THE CARD IS WHAT COUNTS. Prove the row's statement (the work); the ties are given (YtfgponidkfgcpaaGreatDoorTie.lean); close each card by the builder's one call (the guide's Derived/Test/ToyasCard.lean, 'card_holds'). Laid BY PROGRAM, IN A SANDBOX (cutbox-door.mjs). By AI agents, Wed Nov 11 2026. No macro, syntax, notation, axiom, sorry.
-/
import Derived.Test.YtfgponidkfgcpaaGreatDoorRows
import GoSem.ClaimSeven
namespace Go.Proofs.YtfgponidkfgcpaaGreatDoor
namespace Rows

/-- THE TIED CARD OF 'choirlaw4.MeshTells'. -/
def meshTellsCard : Claim7 := { stood := { row := meshTellsRow, standIns := [], harness := (true, "553d07111fd5675b0872137ee38cb45230bd0281b54127c8ce000b4c5dedf0cc"), looks := true }, kinds := [], alts := [], laidByText := true, laidKinds := [.handle], laidTests := true, laidLooks := .later }
def MeshTellsCardSaid : Prop := Claim7.holds Tryz.pinned (.plain (OpenSpec.ofChange meshTellsSpec)) meshTellsCard

/-- THE SECOND FORM's CARD OF 'choirlaw4.MeshTells'. -/
def meshTellsUptoCard : Claim7 := { stood := { row := meshTellsUptoRow, standIns := [], harness := (true, "553d07111fd5675b0872137ee38cb45230bd0281b54127c8ce000b4c5dedf0cc"), looks := true }, kinds := [], alts := [], laidByText := true, laidKinds := [.handle], laidTests := true, laidLooks := .later }
def MeshTellsUptoCardSaid : Prop := Claim7.holds Tryz.pinned (.plain (OpenSpec.upto meshTellsSpec)) meshTellsUptoCard
end Rows
end Go.Proofs.YtfgponidkfgcpaaGreatDoor
