/-
  DERIVED. GIVEN WITH THE SEED: THE CARDS: each row of YtdoljkiklnaioagDoorRows.lean that lists a variable, with what it lists TIED to the program's text (the seventh form; the later family's looks); each row that meets fmt, with fmt's text TOLD by the authors' own Lean function (tested against real Go, not proved from fmt's source: count such statements apart). THE CARD IS WHAT COUNTS. Prove the row's statement (the work); the ties are given (YtdoljkiklnaioagDoorTie.lean); close each card by the builder's one call (the guide's Derived/Test/ToyasCard.lean, 'card_holds'). Laid BY PROGRAM, IN A SANDBOX (cutbox-door.mjs). By AI agents, Wed Nov 11 2026. No macro, syntax, notation, axiom, sorry.
-/
import Derived.Test.YtdoljkiklnaioagDoorRows
import GoSem.ClaimSeven
namespace Go.Proofs.YtdoljkiklnaioagDoor
namespace Rows

/-- THE TIED CARD OF 'choirlaw5.PullEmpties'. -/
def pullEmptiesCard : Claim7 := { stood := { row := pullEmptiesRow, standIns := [], harness := (true, "559b813b74c3c4eb15185ca06dd08b6f9210582ceca343ffcc56c91dc1e85873"), looks := true }, kinds := [], alts := [], laidByText := true, laidKinds := [.handle], laidTests := true, laidLooks := .later }
def PullEmptiesCardSaid : Prop := Claim7.holds Tryd.pinned (.plain (OpenSpec.ofChange pullEmptiesSpec)) pullEmptiesCard

/-- THE TIED CARD OF 'choirlaw3.PullPlays'. -/
def pullPlaysCard : Claim7 := { stood := { row := pullPlaysRow, standIns := [], harness := (true, "559b813b74c3c4eb15185ca06dd08b6f9210582ceca343ffcc56c91dc1e85873"), looks := true }, kinds := [], alts := [], laidByText := true, laidKinds := [.handle], laidTests := true, laidLooks := .later }
def PullPlaysCardSaid : Prop := Claim7.holds Tryd.pinned (.plain (OpenSpec.ofChange pullPlaysSpec)) pullPlaysCard

/-- THE TIED CARD OF 'choirlaw3.RateShares'. -/
def rateSharesCard : Claim7 := { stood := { row := rateSharesRow, standIns := [], harness := (true, "559b813b74c3c4eb15185ca06dd08b6f9210582ceca343ffcc56c91dc1e85873"), looks := true }, kinds := [], alts := [], laidByText := true, laidKinds := [.handle], laidTests := true, laidLooks := .later }
def RateSharesCardSaid : Prop := Claim7.holds Tryd.pinned (.plain (OpenSpec.ofChange rateSharesSpec)) rateSharesCard

/-- THE SECOND FORM's CARD OF 'choirlaw5.PullEmpties'. -/
def pullEmptiesUptoCard : Claim7 := { stood := { row := pullEmptiesUptoRow, standIns := [], harness := (true, "559b813b74c3c4eb15185ca06dd08b6f9210582ceca343ffcc56c91dc1e85873"), looks := true }, kinds := [], alts := [], laidByText := true, laidKinds := [.handle], laidTests := true, laidLooks := .later }
def PullEmptiesUptoCardSaid : Prop := Claim7.holds Tryd.pinned (.plain (OpenSpec.upto pullEmptiesSpec)) pullEmptiesUptoCard

/-- THE SECOND FORM's CARD OF 'choirlaw3.PullPlays'. -/
def pullPlaysUptoCard : Claim7 := { stood := { row := pullPlaysUptoRow, standIns := [], harness := (true, "559b813b74c3c4eb15185ca06dd08b6f9210582ceca343ffcc56c91dc1e85873"), looks := true }, kinds := [], alts := [], laidByText := true, laidKinds := [.handle], laidTests := true, laidLooks := .later }
def PullPlaysUptoCardSaid : Prop := Claim7.holds Tryd.pinned (.plain (OpenSpec.upto pullPlaysSpec)) pullPlaysUptoCard

/-- THE SECOND FORM's CARD OF 'choirlaw3.RateShares'. -/
def rateSharesUptoCard : Claim7 := { stood := { row := rateSharesUptoRow, standIns := [], harness := (true, "559b813b74c3c4eb15185ca06dd08b6f9210582ceca343ffcc56c91dc1e85873"), looks := true }, kinds := [], alts := [], laidByText := true, laidKinds := [.handle], laidTests := true, laidLooks := .later }
def RateSharesUptoCardSaid : Prop := Claim7.holds Tryd.pinned (.plain (OpenSpec.upto rateSharesSpec)) rateSharesUptoCard
end Rows
end Go.Proofs.YtdoljkiklnaioagDoor
