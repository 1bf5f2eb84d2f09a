/-
  NARROWER THAN 'FOR EVERY INPUT', by the rows' own cells (each row's printed sentence says how): PullEmpties: laid · PullPlays: laid · RateShares: laid.
  DERIVED. THE GIVEN ROWS OF THIS SEAT. 3 by the template 'for every input the law returns true; each argument reads behind the call as it read before'; 0 by the template 'total and deterministic' (their statements: YtdoljkiklnaioagDoorTotals.lean).
  GIVEN WITH THE SEED: the statements are not yours to turn. If you find one false, say at which input.
  Laid BY PROGRAM, IN A SANDBOX (cutbox-rows.mjs): the forced cells as the released guide's own fill.sh prints them over the translation a224047618a0a3e4… (all of the seat's roots in one cut). By AI agents, Wed Nov 11 2026. No macro, syntax, notation, axiom, sorry.
-/
import Derived.Test.YtdoljkiklnaioagDoorChecked
import GoSem.Claim
import GoSem.ClaimJoined
import GoSem.ClaimMapViews
import Derived.JoinedTies
import Derived.KernelRfl
namespace Go.Proofs.YtdoljkiklnaioagDoor
/- THE CELL 'sum', in the pinned program and in every row, IS THE sha256 OF THE DUMP (.gsa) THAT YtdoljkiklnaioagDoorProg.lean LOADS. Nothing in Lean hashes anything: it is a label: what it is worth is what the hold of that sum in a sandbox is worth. -/
noncomputable def Tryd.pinned : Pinned := { name := "ytdoljkiklnaioagdoor", sum := "a224047618a0a3e47fd3f3d219c2228db7220c3f7bd316cfaad4c77483d466fa", checked := Tryd.checked }
namespace Rows
def none {H : Type} : Left H := { results := [], args := [] }

/- WHAT THE LISTED PACKAGE-LEVEL VARIABLES READ AS WHEN THE CALL BEGINS. Each datum BY PROGRAM (the guide's laid-datum.mjs) off the statement by which the dump's own 'gosem.cut.vars' lays the variable. In a bare row this is a premise. The card (YtdoljkiklnaioagDoorCards.lean) ties it to the program's text. -/
def laid_errors_errorType {H : Type} : DataW H := .iface "internal/reflectlite.rtype" (.agg [.ptr (.lit (.string [101, 114, 114, 111, 114]))])

/-- 'choirlaw5.PullEmpties': WHATEVER THE INPUT: true; the input reads as it did. -/
def pullEmptiesSpec : ChangeSpec := { name := "pullEmpties", fn := fun _ => fun
  | [d1, d2] => { results := [.lit (.bool true)], args := [d1, d2] }
  | _ => none }
def pullEmptiesRow : OpenClaim := { program := "ytdoljkiklnaioagdoor", sum := "a224047618a0a3e47fd3f3d219c2228db7220c3f7bd316cfaad4c77483d466fa", func := "choirloft/choirlaw5.PullEmpties", spec := "pullEmpties", inPlace := ["internal/reflectlite.ValueOf", "(internal/reflectlite.Value).Type", "(internal/reflectlite.Value).IsNil", "internal/reflectlite.TypeOf", "(internal/reflectlite.Value).Elem", "(internal/reflectlite.Value).Set"], unfollowed := true, recurses := true, named := ["errors.errorType"], apart := false, laid := [("errors.errorType", laid_errors_errorType)] }
def PullEmptiesSaid : Prop := pullEmptiesRow.holds Tryd.pinned (OpenSpec.ofChange pullEmptiesSpec)

/-- ITS FALSE NEIGHBOUR: 'it returns false'. Refute it at one input. -/
def pullEmptiesWrong : ChangeSpec := { name := "pullEmpties", fn := fun _ => fun
  | [d1, d2] => { results := [.lit (.bool false)], args := [d1, d2] }
  | _ => none }
def PullEmptiesWrongFalsely : Prop := pullEmptiesRow.holds Tryd.pinned (OpenSpec.ofChange pullEmptiesWrong)

/-- 'choirlaw3.PullPlays': WHATEVER THE INPUT: true; the input reads as it did. -/
def pullPlaysSpec : ChangeSpec := { name := "pullPlays", fn := fun _ => fun
  | [d1, d2] => { results := [.lit (.bool true)], args := [d1, d2] }
  | _ => none }
def pullPlaysRow : OpenClaim := { program := "ytdoljkiklnaioagdoor", sum := "a224047618a0a3e47fd3f3d219c2228db7220c3f7bd316cfaad4c77483d466fa", func := "choirloft/choirlaw3.PullPlays", spec := "pullPlays", inPlace := ["internal/reflectlite.ValueOf", "(internal/reflectlite.Value).Type", "(internal/reflectlite.Value).IsNil", "internal/reflectlite.TypeOf", "(internal/reflectlite.Value).Elem", "(internal/reflectlite.Value).Set"], unfollowed := true, recurses := true, named := ["errors.errorType"], apart := false, laid := [("errors.errorType", laid_errors_errorType)] }
def PullPlaysSaid : Prop := pullPlaysRow.holds Tryd.pinned (OpenSpec.ofChange pullPlaysSpec)

/-- ITS FALSE NEIGHBOUR: 'it returns false'. Refute it at one input. -/
def pullPlaysWrong : ChangeSpec := { name := "pullPlays", fn := fun _ => fun
  | [d1, d2] => { results := [.lit (.bool false)], args := [d1, d2] }
  | _ => none }
def PullPlaysWrongFalsely : Prop := pullPlaysRow.holds Tryd.pinned (OpenSpec.ofChange pullPlaysWrong)

/-- 'choirlaw3.RateShares': WHATEVER THE INPUT: true; the input reads as it did. -/
def rateSharesSpec : ChangeSpec := { name := "rateShares", fn := fun _ => fun
  | [d1, d2, d3, d4, d5, d6, d7] => { results := [.lit (.bool true)], args := [d1, d2, d3, d4, d5, d6, d7] }
  | _ => none }
def rateSharesRow : OpenClaim := { program := "ytdoljkiklnaioagdoor", sum := "a224047618a0a3e47fd3f3d219c2228db7220c3f7bd316cfaad4c77483d466fa", func := "choirloft/choirlaw3.RateShares", spec := "rateShares", inPlace := ["internal/reflectlite.ValueOf", "(internal/reflectlite.Value).Type", "(internal/reflectlite.Value).IsNil", "internal/reflectlite.TypeOf", "(internal/reflectlite.Value).Elem", "(internal/reflectlite.Value).Set"], unfollowed := true, recurses := true, named := ["errors.errorType"], apart := false, laid := [("errors.errorType", laid_errors_errorType)] }
def RateSharesSaid : Prop := rateSharesRow.holds Tryd.pinned (OpenSpec.ofChange rateSharesSpec)

/-- ITS FALSE NEIGHBOUR: 'it returns false'. Refute it at one input. -/
def rateSharesWrong : ChangeSpec := { name := "rateShares", fn := fun _ => fun
  | [d1, d2, d3, d4, d5, d6, d7] => { results := [.lit (.bool false)], args := [d1, d2, d3, d4, d5, d6, d7] }
  | _ => none }
def RateSharesWrongFalsely : Prop := rateSharesRow.holds Tryd.pinned (OpenSpec.ofChange rateSharesWrong)

/- THE SECOND FORM. 'bulk': how many values and letters a reading holds, each counted each time it is reached (what is shared counts as often as it is met; a slice's spare places count too). A statement '..UptoSaid' is the law's where the arguments, and the package variables that the reading takes, are together of bulk at most 1048576: NARROWER than '..Said'. Prove '..Said' where nothing that the law and all that it calls make is longer than what came in: it says more and counts as full. Else prove '..UptoSaid'. A law counts once. -/
mutual
def uptoBulk {H : Type} : DataW H → Nat
  | .lit (.string bytes) => bytes.length + 1
  | .lit _ => 1
  | .nil => 1
  | .ptr d => uptoBulk d + 1
  | .slice elems spare => uptoBulkAll elems + uptoBulkAll spare + 1
  | .agg parts => uptoBulkAll parts + 1
  | .iface _ d => uptoBulk d + 1
  | .map entries => uptoBulkEntries entries + 1
  | .held _ => 1
def uptoBulkAll {H : Type} : List (DataW H) → Nat
  | [] => 0
  | d :: r => uptoBulk d + uptoBulkAll r
def uptoBulkEntries {H : Type} : List (Lit × DataW H) → Nat
  | [] => 0
  | x :: r => uptoBulkEntry x + uptoBulkEntries r
def uptoBulkEntry {H : Type} : Lit × DataW H → Nat
  | (.string bytes, d) => bytes.length + uptoBulk d + 1
  | (_, d) => uptoBulk d + 1
 end
def uptoSmall : (H : Type) → List (DataW H) → Bool := fun _ ds => decide (uptoBulkAll ds ≤ 1048576)
def OpenSpec.upto (s : _root_.Go.ChangeSpec) : _root_.Go.OpenSpec := { _root_.Go.OpenSpec.ofChange s with cond := some uptoSmall }

/-- 'choirlaw5.PullEmpties', WHERE WHAT IT READS IS OF BULK AT MOST 1048576: true; the input reads as it did. -/
def pullEmptiesUptoRow : OpenClaim := { program := "ytdoljkiklnaioagdoor", sum := "a224047618a0a3e47fd3f3d219c2228db7220c3f7bd316cfaad4c77483d466fa", func := "choirloft/choirlaw5.PullEmpties", spec := "pullEmpties", inPlace := ["internal/reflectlite.ValueOf", "(internal/reflectlite.Value).Type", "(internal/reflectlite.Value).IsNil", "internal/reflectlite.TypeOf", "(internal/reflectlite.Value).Elem", "(internal/reflectlite.Value).Set"], unfollowed := true, recurses := true, named := ["errors.errorType"], apart := false, laid := [("errors.errorType", laid_errors_errorType)], narrowed := true }
def PullEmptiesUptoSaid : Prop := pullEmptiesUptoRow.holds Tryd.pinned (OpenSpec.upto pullEmptiesSpec)

/-- 'choirlaw3.PullPlays', WHERE WHAT IT READS IS OF BULK AT MOST 1048576: true; the input reads as it did. -/
def pullPlaysUptoRow : OpenClaim := { program := "ytdoljkiklnaioagdoor", sum := "a224047618a0a3e47fd3f3d219c2228db7220c3f7bd316cfaad4c77483d466fa", func := "choirloft/choirlaw3.PullPlays", spec := "pullPlays", inPlace := ["internal/reflectlite.ValueOf", "(internal/reflectlite.Value).Type", "(internal/reflectlite.Value).IsNil", "internal/reflectlite.TypeOf", "(internal/reflectlite.Value).Elem", "(internal/reflectlite.Value).Set"], unfollowed := true, recurses := true, named := ["errors.errorType"], apart := false, laid := [("errors.errorType", laid_errors_errorType)], narrowed := true }
def PullPlaysUptoSaid : Prop := pullPlaysUptoRow.holds Tryd.pinned (OpenSpec.upto pullPlaysSpec)

/-- 'choirlaw3.RateShares', WHERE WHAT IT READS IS OF BULK AT MOST 1048576: true; the input reads as it did. -/
def rateSharesUptoRow : OpenClaim := { program := "ytdoljkiklnaioagdoor", sum := "a224047618a0a3e47fd3f3d219c2228db7220c3f7bd316cfaad4c77483d466fa", func := "choirloft/choirlaw3.RateShares", spec := "rateShares", inPlace := ["internal/reflectlite.ValueOf", "(internal/reflectlite.Value).Type", "(internal/reflectlite.Value).IsNil", "internal/reflectlite.TypeOf", "(internal/reflectlite.Value).Elem", "(internal/reflectlite.Value).Set"], unfollowed := true, recurses := true, named := ["errors.errorType"], apart := false, laid := [("errors.errorType", laid_errors_errorType)], narrowed := true }
def RateSharesUptoSaid : Prop := rateSharesUptoRow.holds Tryd.pinned (OpenSpec.upto rateSharesSpec)

end Rows
end Go.Proofs.YtdoljkiklnaioagDoor
