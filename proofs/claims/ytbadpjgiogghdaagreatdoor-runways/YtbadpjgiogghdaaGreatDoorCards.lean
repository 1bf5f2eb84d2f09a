/-
  DERIVED. GIVEN WITH THE SEED: THE CARDS: each row of YtbadpjgiogghdaaGreatDoorRows.lean that lists a variable, with what it lists TIED to the program's text (the seventh form; the later family's looks); each row that meets fmt, with fmt's text TOLD by the authors' own Lean function (tested against real Go, not proved from fmt's source: count such statements apart). THE CARD IS WHAT COUNTS. Prove the row's statement (the work); the ties are given (YtbadpjgiogghdaaGreatDoorTie.lean); close each card by the builder's one call (the guide's Derived/Test/ToyasCard.lean, 'card_holds'). Laid BY PROGRAM, IN A SANDBOX (cutbox-door.mjs). By AI agents, Wed Nov 11 2026. No macro, syntax, notation, axiom, sorry.
-/
import Derived.Test.YtbadpjgiogghdaaGreatDoorRows
import GoSem.ClaimSeven
namespace Go.Proofs.YtbadpjgiogghdaaGreatDoor
namespace Rows

/-- THE TIED CARD OF 'choirlaw3.RunAnswers'. -/
def runAnswersCard : Claim7 := { stood := { row := runAnswersRow, standIns := [], harness := (true, "ed0a6ae32c3a16f7cd1b2af84520a193fd4dfdb8f82f91391c07897862606271"), looks := true }, kinds := [], alts := [], laidByText := true, laidKinds := [.data, .data, .data, .data, .handle, .sentinel, .sentinel, .sentinel, .pinned], laidTests := true, laidLooks := .later }
def RunAnswersCardSaid : Prop := Claim7.holds Tryz.pinned (.plain (OpenSpec.ofChange runAnswersSpec)) runAnswersCard

/-- THE TIED CARD OF 'choirlaw3.RunBegins'. -/
def runBeginsCard : Claim7 := { stood := { row := runBeginsRow, standIns := [], harness := (true, "ed0a6ae32c3a16f7cd1b2af84520a193fd4dfdb8f82f91391c07897862606271"), looks := true }, kinds := [], alts := [], laidByText := true, laidKinds := [.data, .data, .data, .data, .handle, .sentinel, .sentinel, .sentinel, .pinned], laidTests := true, laidLooks := .later }
def RunBeginsCardSaid : Prop := Claim7.holds Tryz.pinned (.plain (OpenSpec.ofChange runBeginsSpec)) runBeginsCard

/-- THE TIED CARD OF 'choirlaw3.RunWays'. -/
def runWaysCard : Claim7 := { stood := { row := runWaysRow, standIns := [], harness := (true, "ed0a6ae32c3a16f7cd1b2af84520a193fd4dfdb8f82f91391c07897862606271"), looks := true }, kinds := [], alts := [], laidByText := true, laidKinds := [.data, .data, .data, .data, .handle, .sentinel, .sentinel, .sentinel, .pinned], laidTests := true, laidLooks := .later }
def RunWaysCardSaid : Prop := Claim7.holds Tryz.pinned (.plain (OpenSpec.ofChange runWaysSpec)) runWaysCard

/-- THE TIED CARD OF 'choirlaw5.RunSums'. -/
def runSumsCard : Claim7 := { stood := { row := runSumsRow, standIns := [], harness := (true, "ed0a6ae32c3a16f7cd1b2af84520a193fd4dfdb8f82f91391c07897862606271"), looks := true }, kinds := [], alts := [], laidByText := true, laidKinds := [.data, .data, .data, .data, .handle, .sentinel, .sentinel, .sentinel, .pinned], laidTests := true, laidLooks := .later }
def RunSumsCardSaid : Prop := Claim7.holds Tryz.pinned (.plain (OpenSpec.ofChange runSumsSpec)) runSumsCard

/-- THE SECOND FORM's CARD OF 'choirlaw3.RunAnswers'. -/
def runAnswersUptoCard : Claim7 := { stood := { row := runAnswersUptoRow, standIns := [], harness := (true, "ed0a6ae32c3a16f7cd1b2af84520a193fd4dfdb8f82f91391c07897862606271"), looks := true }, kinds := [], alts := [], laidByText := true, laidKinds := [.data, .data, .data, .data, .handle, .sentinel, .sentinel, .sentinel, .pinned], laidTests := true, laidLooks := .later }
def RunAnswersUptoCardSaid : Prop := Claim7.holds Tryz.pinned (.plain (OpenSpec.upto runAnswersSpec)) runAnswersUptoCard

/-- THE SECOND FORM's CARD OF 'choirlaw3.RunBegins'. -/
def runBeginsUptoCard : Claim7 := { stood := { row := runBeginsUptoRow, standIns := [], harness := (true, "ed0a6ae32c3a16f7cd1b2af84520a193fd4dfdb8f82f91391c07897862606271"), looks := true }, kinds := [], alts := [], laidByText := true, laidKinds := [.data, .data, .data, .data, .handle, .sentinel, .sentinel, .sentinel, .pinned], laidTests := true, laidLooks := .later }
def RunBeginsUptoCardSaid : Prop := Claim7.holds Tryz.pinned (.plain (OpenSpec.upto runBeginsSpec)) runBeginsUptoCard

/-- THE SECOND FORM's CARD OF 'choirlaw3.RunWays'. -/
def runWaysUptoCard : Claim7 := { stood := { row := runWaysUptoRow, standIns := [], harness := (true, "ed0a6ae32c3a16f7cd1b2af84520a193fd4dfdb8f82f91391c07897862606271"), looks := true }, kinds := [], alts := [], laidByText := true, laidKinds := [.data, .data, .data, .data, .handle, .sentinel, .sentinel, .sentinel, .pinned], laidTests := true, laidLooks := .later }
def RunWaysUptoCardSaid : Prop := Claim7.holds Tryz.pinned (.plain (OpenSpec.upto runWaysSpec)) runWaysUptoCard

/-- THE SECOND FORM's CARD OF 'choirlaw5.RunSums'. -/
def runSumsUptoCard : Claim7 := { stood := { row := runSumsUptoRow, standIns := [], harness := (true, "ed0a6ae32c3a16f7cd1b2af84520a193fd4dfdb8f82f91391c07897862606271"), looks := true }, kinds := [], alts := [], laidByText := true, laidKinds := [.data, .data, .data, .data, .handle, .sentinel, .sentinel, .sentinel, .pinned], laidTests := true, laidLooks := .later }
def RunSumsUptoCardSaid : Prop := Claim7.holds Tryz.pinned (.plain (OpenSpec.upto runSumsSpec)) runSumsUptoCard
end Rows
end Go.Proofs.YtbadpjgiogghdaaGreatDoor
