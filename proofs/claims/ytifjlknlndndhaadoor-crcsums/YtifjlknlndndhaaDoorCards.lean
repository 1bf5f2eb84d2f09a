/-
  DERIVED. GIVEN WITH THE SEED: THE CARDS: each row of YtifjlknlndndhaaDoorRows.lean that lists a variable, with what it lists TIED to the program's text (the seventh form; the later family's looks); each row that meets fmt, with fmt's text TOLD by the authors' own Lean function (tested against real Go, not proved from fmt's source: count such statements apart). THE CARD IS WHAT COUNTS. Prove the row's statement (the work); the ties are given (YtifjlknlndndhaaDoorTie.lean); close each card by the builder's one call (the guide's Derived/Test/ToyasCard.lean, 'card_holds'). Laid BY PROGRAM, IN A SANDBOX (cutbox-door.mjs). By AI agents, Wed Nov 11 2026. No macro, syntax, notation, axiom, sorry.
-/
import Derived.Test.YtifjlknlndndhaaDoorRows
import GoSem.ClaimSeven
namespace Go.Proofs.YtifjlknlndndhaaDoor
namespace Rows

/-- THE TIED CARD OF 'choirlaw1.SerialGoes'. -/
def serialGoesCard : Claim7 := { stood := { row := serialGoesRow, standIns := [], harness := (true, "2a15b304d5defacb5831f1ad60a5bce21c9aab8d858de9834461fece15c2d7cc"), looks := true }, kinds := [], alts := [], laidByText := true, laidKinds := [.handle], laidTests := true, laidLooks := .later }
def SerialGoesCardSaid : Prop := Claim7.holds Tryd.pinned (.plain (OpenSpec.ofChange serialGoesSpec)) serialGoesCard

/-- THE TIED CARD OF 'choirlaw1.SerialPlays'. -/
def serialPlaysCard : Claim7 := { stood := { row := serialPlaysRow, standIns := [], harness := (true, "2a15b304d5defacb5831f1ad60a5bce21c9aab8d858de9834461fece15c2d7cc"), looks := true }, kinds := [], alts := [], laidByText := true, laidKinds := [.handle], laidTests := true, laidLooks := .later }
def SerialPlaysCardSaid : Prop := Claim7.holds Tryd.pinned (.plain (OpenSpec.ofChange serialPlaysSpec)) serialPlaysCard

/-- THE TIED CARD OF 'choirlaw1.CrcSums'. -/
def crcSumsCard : Claim7 := { stood := { row := crcSumsRow, standIns := [], harness := (true, "2a15b304d5defacb5831f1ad60a5bce21c9aab8d858de9834461fece15c2d7cc"), looks := true }, kinds := [], alts := [], laidByText := true, laidKinds := [.handle], laidTests := true, laidLooks := .later }
def CrcSumsCardSaid : Prop := Claim7.holds Tryd.pinned (.plain (OpenSpec.ofChange crcSumsSpec)) crcSumsCard

/-- THE SECOND FORM's CARD OF 'choirlaw1.SerialGoes'. -/
def serialGoesUptoCard : Claim7 := { stood := { row := serialGoesUptoRow, standIns := [], harness := (true, "2a15b304d5defacb5831f1ad60a5bce21c9aab8d858de9834461fece15c2d7cc"), looks := true }, kinds := [], alts := [], laidByText := true, laidKinds := [.handle], laidTests := true, laidLooks := .later }
def SerialGoesUptoCardSaid : Prop := Claim7.holds Tryd.pinned (.plain (OpenSpec.upto serialGoesSpec)) serialGoesUptoCard

/-- THE SECOND FORM's CARD OF 'choirlaw1.SerialPlays'. -/
def serialPlaysUptoCard : Claim7 := { stood := { row := serialPlaysUptoRow, standIns := [], harness := (true, "2a15b304d5defacb5831f1ad60a5bce21c9aab8d858de9834461fece15c2d7cc"), looks := true }, kinds := [], alts := [], laidByText := true, laidKinds := [.handle], laidTests := true, laidLooks := .later }
def SerialPlaysUptoCardSaid : Prop := Claim7.holds Tryd.pinned (.plain (OpenSpec.upto serialPlaysSpec)) serialPlaysUptoCard

/-- THE SECOND FORM's CARD OF 'choirlaw1.CrcSums'. -/
def crcSumsUptoCard : Claim7 := { stood := { row := crcSumsUptoRow, standIns := [], harness := (true, "2a15b304d5defacb5831f1ad60a5bce21c9aab8d858de9834461fece15c2d7cc"), looks := true }, kinds := [], alts := [], laidByText := true, laidKinds := [.handle], laidTests := true, laidLooks := .later }
def CrcSumsUptoCardSaid : Prop := Claim7.holds Tryd.pinned (.plain (OpenSpec.upto crcSumsSpec)) crcSumsUptoCard
end Rows
end Go.Proofs.YtifjlknlndndhaaDoor
