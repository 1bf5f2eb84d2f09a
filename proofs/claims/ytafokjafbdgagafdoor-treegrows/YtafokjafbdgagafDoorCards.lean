/-
  DERIVED. GIVEN WITH THE SEED: THE CARDS: each row of YtafokjafbdgagafDoorRows.lean that lists a variable, with what it lists TIED to the program's text (the seventh form; the later family's looks); each row that meets fmt, with fmt's text TOLD by the authors' own Lean function (tested against real Go, not proved from fmt's source: count such statements apart). THE CARD IS WHAT COUNTS. Prove the row's statement (the work); the ties are given (YtafokjafbdgagafDoorTie.lean); close each card by the builder's one call (the guide's Derived/Test/ToyasCard.lean, 'card_holds'). Laid BY PROGRAM, IN A SANDBOX (cutbox-door.mjs). By AI agents, Wed Nov 11 2026. No macro, syntax, notation, axiom, sorry.
-/
import Derived.Test.YtafokjafbdgagafDoorRows
import GoSem.ClaimSeven
namespace Go.Proofs.YtafokjafbdgagafDoor
namespace Rows

/-- THE TIED CARD OF 'choirlaw2.OutPlays'. -/
def outPlaysCard : Claim7 := { stood := { row := outPlaysRow, standIns := [], harness := (true, "91ff958e7b6abd462b933154be053c2be425b9519a04697acd32f6a149791a57"), looks := true }, kinds := [], alts := [], laidByText := true, laidKinds := [.handle], laidTests := true, laidLooks := .later }
def OutPlaysCardSaid : Prop := Claim7.holds Tryd.pinned (.plain (OpenSpec.ofChange outPlaysSpec)) outPlaysCard

/-- THE TIED CARD OF 'choirlaw2.ViewMerges'. -/
def viewMergesCard : Claim7 := { stood := { row := viewMergesRow, standIns := [], harness := (true, "91ff958e7b6abd462b933154be053c2be425b9519a04697acd32f6a149791a57"), looks := true }, kinds := [], alts := [], laidByText := true, laidKinds := [.handle], laidTests := true, laidLooks := .later }
def ViewMergesCardSaid : Prop := Claim7.holds Tryd.pinned (.plain (OpenSpec.ofChange viewMergesSpec)) viewMergesCard

/-- THE TIED CARD OF 'choirlaw2.TreeGrows'. -/
def treeGrowsCard : Claim7 := { stood := { row := treeGrowsRow, standIns := [], harness := (true, "91ff958e7b6abd462b933154be053c2be425b9519a04697acd32f6a149791a57"), looks := true }, kinds := [], alts := [], laidByText := true, laidKinds := [.handle], laidTests := true, laidLooks := .later }
def TreeGrowsCardSaid : Prop := Claim7.holds Tryd.pinned (.plain (OpenSpec.ofChange treeGrowsSpec)) treeGrowsCard

/-- THE SECOND FORM's CARD OF 'choirlaw2.OutPlays'. -/
def outPlaysUptoCard : Claim7 := { stood := { row := outPlaysUptoRow, standIns := [], harness := (true, "91ff958e7b6abd462b933154be053c2be425b9519a04697acd32f6a149791a57"), looks := true }, kinds := [], alts := [], laidByText := true, laidKinds := [.handle], laidTests := true, laidLooks := .later }
def OutPlaysUptoCardSaid : Prop := Claim7.holds Tryd.pinned (.plain (OpenSpec.upto outPlaysSpec)) outPlaysUptoCard

/-- THE SECOND FORM's CARD OF 'choirlaw2.ViewMerges'. -/
def viewMergesUptoCard : Claim7 := { stood := { row := viewMergesUptoRow, standIns := [], harness := (true, "91ff958e7b6abd462b933154be053c2be425b9519a04697acd32f6a149791a57"), looks := true }, kinds := [], alts := [], laidByText := true, laidKinds := [.handle], laidTests := true, laidLooks := .later }
def ViewMergesUptoCardSaid : Prop := Claim7.holds Tryd.pinned (.plain (OpenSpec.upto viewMergesSpec)) viewMergesUptoCard

/-- THE SECOND FORM's CARD OF 'choirlaw2.TreeGrows'. -/
def treeGrowsUptoCard : Claim7 := { stood := { row := treeGrowsUptoRow, standIns := [], harness := (true, "91ff958e7b6abd462b933154be053c2be425b9519a04697acd32f6a149791a57"), looks := true }, kinds := [], alts := [], laidByText := true, laidKinds := [.handle], laidTests := true, laidLooks := .later }
def TreeGrowsUptoCardSaid : Prop := Claim7.holds Tryd.pinned (.plain (OpenSpec.upto treeGrowsSpec)) treeGrowsUptoCard
end Rows
end Go.Proofs.YtafokjafbdgagafDoor
