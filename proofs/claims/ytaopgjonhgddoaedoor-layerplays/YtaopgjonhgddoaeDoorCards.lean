/-
  DERIVED. GIVEN WITH THE SEED: THE CARDS: each row of YtaopgjonhgddoaeDoorRows.lean that lists a variable, with what it lists TIED to the program's text (the seventh form; the later family's looks); each row that meets fmt, with fmt's text TOLD by the authors' own Lean function (tested against real Go, not proved from fmt's source: count such statements apart). THE CARD IS WHAT COUNTS. Prove the row's statement (the work); the ties are given (YtaopgjonhgddoaeDoorTie.lean); close each card by the builder's one call (the guide's Derived/Test/ToyasCard.lean, 'card_holds'). Laid BY PROGRAM, IN A SANDBOX (cutbox-door.mjs). By AI agents, Wed Nov 11 2026. No macro, syntax, notation, axiom, sorry.
-/
import Derived.Test.YtaopgjonhgddoaeDoorRows
import GoSem.ClaimSeven
namespace Go.Proofs.YtaopgjonhgddoaeDoor
namespace Rows

/-- THE TIED CARD OF 'choirlaw2.OrderPlays'. -/
def orderPlaysCard : Claim7 := { stood := { row := orderPlaysRow, standIns := [], harness := (true, "f6796e216c6ff5ad6ea4db3d29b1ec6b3ab59324b32def98619089fbfa110ece"), looks := true }, kinds := [], alts := [], laidByText := true, laidKinds := [.handle], laidTests := true, laidLooks := .later }
def OrderPlaysCardSaid : Prop := Claim7.holds Tryd.pinned (.plain (OpenSpec.ofChange orderPlaysSpec)) orderPlaysCard

/-- THE TIED CARD OF 'choirlaw2.LayerPlays'. -/
def layerPlaysCard : Claim7 := { stood := { row := layerPlaysRow, standIns := [], harness := (true, "f6796e216c6ff5ad6ea4db3d29b1ec6b3ab59324b32def98619089fbfa110ece"), looks := true }, kinds := [], alts := [], laidByText := true, laidKinds := [.handle], laidTests := true, laidLooks := .later }
def LayerPlaysCardSaid : Prop := Claim7.holds Tryd.pinned (.plain (OpenSpec.ofChange layerPlaysSpec)) layerPlaysCard

/-- THE SECOND FORM's CARD OF 'choirlaw2.OrderPlays'. -/
def orderPlaysUptoCard : Claim7 := { stood := { row := orderPlaysUptoRow, standIns := [], harness := (true, "f6796e216c6ff5ad6ea4db3d29b1ec6b3ab59324b32def98619089fbfa110ece"), looks := true }, kinds := [], alts := [], laidByText := true, laidKinds := [.handle], laidTests := true, laidLooks := .later }
def OrderPlaysUptoCardSaid : Prop := Claim7.holds Tryd.pinned (.plain (OpenSpec.upto orderPlaysSpec)) orderPlaysUptoCard

/-- THE SECOND FORM's CARD OF 'choirlaw2.LayerPlays'. -/
def layerPlaysUptoCard : Claim7 := { stood := { row := layerPlaysUptoRow, standIns := [], harness := (true, "f6796e216c6ff5ad6ea4db3d29b1ec6b3ab59324b32def98619089fbfa110ece"), looks := true }, kinds := [], alts := [], laidByText := true, laidKinds := [.handle], laidTests := true, laidLooks := .later }
def LayerPlaysUptoCardSaid : Prop := Claim7.holds Tryd.pinned (.plain (OpenSpec.upto layerPlaysSpec)) layerPlaysUptoCard
end Rows
end Go.Proofs.YtaopgjonhgddoaeDoor
