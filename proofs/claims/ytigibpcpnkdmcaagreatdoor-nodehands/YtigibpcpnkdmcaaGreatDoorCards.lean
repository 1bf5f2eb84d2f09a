/-
  DERIVED. GIVEN WITH THE SEED: THE CARDS: each row of YtigibpcpnkdmcaaGreatDoorRows.lean that lists a variable, with what it lists TIED to the program's text (the seventh form; the later family's looks); each row that meets fmt, with fmt's text TOLD by the authors' own Lean function (tested against real Go, not proved from fmt's source: count such statements apart). THE CARD IS WHAT COUNTS. Prove the row's statement (the work); the ties are given (YtigibpcpnkdmcaaGreatDoorTie.lean); close each card by the builder's one call (the guide's Derived/Test/ToyasCard.lean, 'card_holds'). Laid BY PROGRAM, IN A SANDBOX (cutbox-door.mjs). By AI agents, Wed Nov 11 2026. No macro, syntax, notation, axiom, sorry.
-/
import Derived.Test.YtigibpcpnkdmcaaGreatDoorRows
import GoSem.ClaimSeven
namespace Go.Proofs.YtigibpcpnkdmcaaGreatDoor
namespace Rows

/-- THE TIED CARD OF 'choirlaw4.NodeHands'. -/
def nodeHandsCard : Claim7 := { stood := { row := nodeHandsRow, standIns := [], harness := (true, "dfb05a6e9ca2181b99b512a7fd8c7e95eeef78baca4291cb34b67b1dcc8cb58a"), looks := true }, kinds := [], alts := [], laidByText := true, laidKinds := [.handle], laidTests := true, laidLooks := .later }
def NodeHandsCardSaid : Prop := Claim7.holds Tryz.pinned (.plain (OpenSpec.ofChange nodeHandsSpec)) nodeHandsCard

/-- THE SECOND FORM's CARD OF 'choirlaw4.NodeHands'. -/
def nodeHandsUptoCard : Claim7 := { stood := { row := nodeHandsUptoRow, standIns := [], harness := (true, "dfb05a6e9ca2181b99b512a7fd8c7e95eeef78baca4291cb34b67b1dcc8cb58a"), looks := true }, kinds := [], alts := [], laidByText := true, laidKinds := [.handle], laidTests := true, laidLooks := .later }
def NodeHandsUptoCardSaid : Prop := Claim7.holds Tryz.pinned (.plain (OpenSpec.upto nodeHandsSpec)) nodeHandsUptoCard
end Rows
end Go.Proofs.YtigibpcpnkdmcaaGreatDoor
