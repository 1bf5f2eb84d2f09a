/-
  DERIVED. GIVEN WITH THE SEED: THE CARDS: each row of YtdnfliknljfkcagDoorRows.lean that lists a variable, with what it lists TIED to the program's text (the seventh form; the later family's looks); each row that meets fmt, with fmt's text TOLD by the authors' own Lean function (tested against real Go, not proved from fmt's source: count such statements apart). THE CARD IS WHAT COUNTS. Prove the row's statement (the work); the ties are given (YtdnfliknljfkcagDoorTie.lean); close each card by the builder's one call (the guide's Derived/Test/ToyasCard.lean, 'card_holds'). Laid BY PROGRAM, IN A SANDBOX (cutbox-door.mjs). By AI agents, Wed Nov 11 2026. No macro, syntax, notation, axiom, sorry.
-/
import Derived.Test.YtdnfliknljfkcagDoorRows
import GoSem.ClaimSeven
namespace Go.Proofs.YtdnfliknljfkcagDoor
namespace Rows

/-- THE TIED CARD OF 'choirlaw5.PullEmpties'. -/
def pullEmptiesCard : Claim7 := { stood := { row := pullEmptiesRow, standIns := [], harness := (true, "67d84c295387f5f7b20fc75b6d0de1be3126b8d62fd715e515c70a498ac6cd1f"), looks := true }, kinds := [], alts := [], laidByText := true, laidKinds := [.handle], laidTests := true, laidLooks := .later }
def PullEmptiesCardSaid : Prop := Claim7.holds Tryd.pinned (.plain (OpenSpec.ofChange pullEmptiesSpec)) pullEmptiesCard

/-- THE TIED CARD OF 'choirlaw3.PullPlays'. -/
def pullPlaysCard : Claim7 := { stood := { row := pullPlaysRow, standIns := [], harness := (true, "67d84c295387f5f7b20fc75b6d0de1be3126b8d62fd715e515c70a498ac6cd1f"), looks := true }, kinds := [], alts := [], laidByText := true, laidKinds := [.handle], laidTests := true, laidLooks := .later }
def PullPlaysCardSaid : Prop := Claim7.holds Tryd.pinned (.plain (OpenSpec.ofChange pullPlaysSpec)) pullPlaysCard

/-- THE SECOND FORM's CARD OF 'choirlaw5.PullEmpties'. -/
def pullEmptiesUptoCard : Claim7 := { stood := { row := pullEmptiesUptoRow, standIns := [], harness := (true, "67d84c295387f5f7b20fc75b6d0de1be3126b8d62fd715e515c70a498ac6cd1f"), looks := true }, kinds := [], alts := [], laidByText := true, laidKinds := [.handle], laidTests := true, laidLooks := .later }
def PullEmptiesUptoCardSaid : Prop := Claim7.holds Tryd.pinned (.plain (OpenSpec.upto pullEmptiesSpec)) pullEmptiesUptoCard

/-- THE SECOND FORM's CARD OF 'choirlaw3.PullPlays'. -/
def pullPlaysUptoCard : Claim7 := { stood := { row := pullPlaysUptoRow, standIns := [], harness := (true, "67d84c295387f5f7b20fc75b6d0de1be3126b8d62fd715e515c70a498ac6cd1f"), looks := true }, kinds := [], alts := [], laidByText := true, laidKinds := [.handle], laidTests := true, laidLooks := .later }
def PullPlaysUptoCardSaid : Prop := Claim7.holds Tryd.pinned (.plain (OpenSpec.upto pullPlaysSpec)) pullPlaysUptoCard
end Rows
end Go.Proofs.YtdnfliknljfkcagDoor
