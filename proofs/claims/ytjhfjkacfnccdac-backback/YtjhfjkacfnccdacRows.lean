/-
  No cell of these rows narrows 'for every input' (looked for: loops, veiled, ifaces, maps, wideKeys, modest, calm, conditions, laid).
  DERIVED. THE GIVEN ROWS OF THIS SEAT. 4 by the template 'for every input the law returns true; each argument reads behind the call as it read before'; 0 by the template 'total and deterministic' (their statements: YtjhfjkacfnccdacTotals.lean).
  GIVEN WITH THE SEED: the statements are not yours to turn. If you find one false, say at which input.
  Laid BY PROGRAM, IN A SANDBOX (cutbox-rows.mjs): the forced cells as the released guide's own fill.sh prints them over the translation b9a27e215f6001d3… (all of the seat's roots in one cut). By AI agents, Wed Nov 11 2026. No macro, syntax, notation, axiom, sorry.
-/
import Derived.Test.YtjhfjkacfnccdacChecked
import GoSem.Claim
import GoSem.ClaimJoined
import GoSem.ClaimMapViews
import Derived.JoinedTies
import Derived.KernelRfl
namespace Go.Proofs.Ytjhfjkacfnccdac
/- THE CELL 'sum', in the pinned program and in every row, IS THE sha256 OF THE DUMP (.gsa) THAT YtjhfjkacfnccdacProg.lean LOADS. Nothing in Lean hashes anything: it is a label: what it is worth is what the hold of that sum in a sandbox is worth. -/
noncomputable def Try.pinned : Pinned := { name := "ytjhfjkacfnccdac", sum := "b9a27e215f6001d3cff198548e4ced12973cad5db11d4b7b2aac5ebb570fd0a1", checked := Try.checked }
namespace Rows
def none {H : Type} : Left H := { results := [], args := [] }

/-- 'choirlaw1.BackBack': WHATEVER THE INPUT: true; the input reads as it did. -/
def backBackSpec : ChangeSpec := { name := "backBack", fn := fun _ => fun
  | [d1, d2, d3] => { results := [.lit (.bool true)], args := [d1, d2, d3] }
  | _ => none }
def backBackRow : OpenClaim := { program := "ytjhfjkacfnccdac", sum := "b9a27e215f6001d3cff198548e4ced12973cad5db11d4b7b2aac5ebb570fd0a1", func := "choirloft/choirlaw1.BackBack", spec := "backBack", unfollowed := true, recurses := true, apart := false }
def BackBackSaid : Prop := backBackRow.holds Try.pinned (OpenSpec.ofChange backBackSpec)

/-- ITS FALSE NEIGHBOUR: 'it returns false'. Refute it at one input. -/
def backBackWrong : ChangeSpec := { name := "backBack", fn := fun _ => fun
  | [d1, d2, d3] => { results := [.lit (.bool false)], args := [d1, d2, d3] }
  | _ => none }
def BackBackWrongFalsely : Prop := backBackRow.holds Try.pinned (OpenSpec.ofChange backBackWrong)

/-- 'choirlaw5.BackFew': WHATEVER THE INPUT: true; the input reads as it did. -/
def backFewSpec : ChangeSpec := { name := "backFew", fn := fun _ => fun
  | [d1, d2, d3] => { results := [.lit (.bool true)], args := [d1, d2, d3] }
  | _ => none }
def backFewRow : OpenClaim := { program := "ytjhfjkacfnccdac", sum := "b9a27e215f6001d3cff198548e4ced12973cad5db11d4b7b2aac5ebb570fd0a1", func := "choirloft/choirlaw5.BackFew", spec := "backFew", unfollowed := true, recurses := true, apart := false }
def BackFewSaid : Prop := backFewRow.holds Try.pinned (OpenSpec.ofChange backFewSpec)

/-- ITS FALSE NEIGHBOUR: 'it returns false'. Refute it at one input. -/
def backFewWrong : ChangeSpec := { name := "backFew", fn := fun _ => fun
  | [d1, d2, d3] => { results := [.lit (.bool false)], args := [d1, d2, d3] }
  | _ => none }
def BackFewWrongFalsely : Prop := backFewRow.holds Try.pinned (OpenSpec.ofChange backFewWrong)

/-- 'choirlaw5.FrameSizes': WHATEVER THE INPUT: true; the input reads as it did. -/
def frameSizesSpec : ChangeSpec := { name := "frameSizes", fn := fun _ => fun
  | [d1, d2] => { results := [.lit (.bool true)], args := [d1, d2] }
  | _ => none }
def frameSizesRow : OpenClaim := { program := "ytjhfjkacfnccdac", sum := "b9a27e215f6001d3cff198548e4ced12973cad5db11d4b7b2aac5ebb570fd0a1", func := "choirloft/choirlaw5.FrameSizes", spec := "frameSizes", apart := false }
def FrameSizesSaid : Prop := frameSizesRow.holds Try.pinned (OpenSpec.ofChange frameSizesSpec)

/-- ITS FALSE NEIGHBOUR: 'it returns false'. Refute it at one input. -/
def frameSizesWrong : ChangeSpec := { name := "frameSizes", fn := fun _ => fun
  | [d1, d2] => { results := [.lit (.bool false)], args := [d1, d2] }
  | _ => none }
def FrameSizesWrongFalsely : Prop := frameSizesRow.holds Try.pinned (OpenSpec.ofChange frameSizesWrong)

/-- 'choirlaw2.RingKeeps': WHATEVER THE INPUT: true; the input reads as it did. -/
def ringKeepsSpec : ChangeSpec := { name := "ringKeeps", fn := fun _ => fun
  | [d1, d2, d3] => { results := [.lit (.bool true)], args := [d1, d2, d3] }
  | _ => none }
def ringKeepsRow : OpenClaim := { program := "ytjhfjkacfnccdac", sum := "b9a27e215f6001d3cff198548e4ced12973cad5db11d4b7b2aac5ebb570fd0a1", func := "choirloft/choirlaw2.RingKeeps", spec := "ringKeeps", apart := false }
def RingKeepsSaid : Prop := ringKeepsRow.holds Try.pinned (OpenSpec.ofChange ringKeepsSpec)

/-- ITS FALSE NEIGHBOUR: 'it returns false'. Refute it at one input. -/
def ringKeepsWrong : ChangeSpec := { name := "ringKeeps", fn := fun _ => fun
  | [d1, d2, d3] => { results := [.lit (.bool false)], args := [d1, d2, d3] }
  | _ => none }
def RingKeepsWrongFalsely : Prop := ringKeepsRow.holds Try.pinned (OpenSpec.ofChange ringKeepsWrong)

/- THE SECOND FORM. 'bulk': how many values and letters a reading holds, each counted each time it is reached (what is shared counts as often as it is met; a slice's spare places count too). A statement '..UptoSaid' is the law's where the arguments, and the package variables that the reading takes, are together of bulk at most 1048576: NARROWER than '..Said'. Prove '..Said' where nothing that the law and all that it calls make is longer than what came in: it says more and counts as full. Else prove '..UptoSaid'. A law counts once. -/
mutual
def uptoBulk {H : Type} : DataW H → Nat
  | .lit (.string bytes) => bytes.length + 1
  | .lit _ => 1
  | .nil => 1
  | .ptr d => uptoBulk d + 1
  | .slice elems spare => uptoBulkAll elems + uptoBulkAll spare + 1
  | .agg parts => uptoBulkAll parts + 1
  | .iface _ d => uptoBulk d + 1
  | .map entries => uptoBulkEntries entries + 1
  | .held _ => 1
def uptoBulkAll {H : Type} : List (DataW H) → Nat
  | [] => 0
  | d :: r => uptoBulk d + uptoBulkAll r
def uptoBulkEntries {H : Type} : List (Lit × DataW H) → Nat
  | [] => 0
  | x :: r => uptoBulkEntry x + uptoBulkEntries r
def uptoBulkEntry {H : Type} : Lit × DataW H → Nat
  | (.string bytes, d) => bytes.length + uptoBulk d + 1
  | (_, d) => uptoBulk d + 1
 end
def uptoSmall : (H : Type) → List (DataW H) → Bool := fun _ ds => decide (uptoBulkAll ds ≤ 1048576)
def OpenSpec.upto (s : _root_.Go.ChangeSpec) : _root_.Go.OpenSpec := { _root_.Go.OpenSpec.ofChange s with cond := some uptoSmall }

/-- 'choirlaw1.BackBack', WHERE WHAT IT READS IS OF BULK AT MOST 1048576: true; the input reads as it did. -/
def backBackUptoRow : OpenClaim := { program := "ytjhfjkacfnccdac", sum := "b9a27e215f6001d3cff198548e4ced12973cad5db11d4b7b2aac5ebb570fd0a1", func := "choirloft/choirlaw1.BackBack", spec := "backBack", unfollowed := true, recurses := true, apart := false, narrowed := true }
def BackBackUptoSaid : Prop := backBackUptoRow.holds Try.pinned (OpenSpec.upto backBackSpec)

/-- 'choirlaw5.BackFew', WHERE WHAT IT READS IS OF BULK AT MOST 1048576: true; the input reads as it did. -/
def backFewUptoRow : OpenClaim := { program := "ytjhfjkacfnccdac", sum := "b9a27e215f6001d3cff198548e4ced12973cad5db11d4b7b2aac5ebb570fd0a1", func := "choirloft/choirlaw5.BackFew", spec := "backFew", unfollowed := true, recurses := true, apart := false, narrowed := true }
def BackFewUptoSaid : Prop := backFewUptoRow.holds Try.pinned (OpenSpec.upto backFewSpec)

/-- 'choirlaw5.FrameSizes', WHERE WHAT IT READS IS OF BULK AT MOST 1048576: true; the input reads as it did. -/
def frameSizesUptoRow : OpenClaim := { program := "ytjhfjkacfnccdac", sum := "b9a27e215f6001d3cff198548e4ced12973cad5db11d4b7b2aac5ebb570fd0a1", func := "choirloft/choirlaw5.FrameSizes", spec := "frameSizes", apart := false, narrowed := true }
def FrameSizesUptoSaid : Prop := frameSizesUptoRow.holds Try.pinned (OpenSpec.upto frameSizesSpec)

/-- 'choirlaw2.RingKeeps', WHERE WHAT IT READS IS OF BULK AT MOST 1048576: true; the input reads as it did. -/
def ringKeepsUptoRow : OpenClaim := { program := "ytjhfjkacfnccdac", sum := "b9a27e215f6001d3cff198548e4ced12973cad5db11d4b7b2aac5ebb570fd0a1", func := "choirloft/choirlaw2.RingKeeps", spec := "ringKeeps", apart := false, narrowed := true }
def RingKeepsUptoSaid : Prop := ringKeepsUptoRow.holds Try.pinned (OpenSpec.upto ringKeepsSpec)

end Rows
end Go.Proofs.Ytjhfjkacfnccdac
