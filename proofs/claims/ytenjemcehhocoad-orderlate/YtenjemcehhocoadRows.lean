/-
  No cell of these rows narrows 'for every input' (looked for: loops, veiled, ifaces, maps, wideKeys, modest, calm, conditions, laid).
  DERIVED. THE GIVEN ROWS OF THIS SEAT. 3 by the template 'for every input the law returns true; each argument reads behind the call as it read before'; 0 by the template 'total and deterministic' (their statements: YtenjemcehhocoadTotals.lean).
  GIVEN WITH THE SEED: the statements are not yours to turn. If you find one false, say at which input.
  Laid BY PROGRAM, IN A SANDBOX (cutbox-rows.mjs): the forced cells as the released guide's own fill.sh prints them over the translation 3c4fa7a4feb350ac… (all of the seat's roots in one cut). By AI agents, Wed Nov 11 2026. No macro, syntax, notation, axiom, sorry.
-/
import Derived.Test.YtenjemcehhocoadChecked
import GoSem.Claim
import GoSem.ClaimJoined
import GoSem.ClaimMapViews
import Derived.JoinedTies
import Derived.KernelRfl
namespace Go.Proofs.Ytenjemcehhocoad
/- THE CELL 'sum', in the pinned program and in every row, IS THE sha256 OF THE DUMP (.gsa) THAT YtenjemcehhocoadProg.lean LOADS. Nothing in Lean hashes anything: it is a label: what it is worth is what the hold of that sum in a sandbox is worth. -/
noncomputable def Try.pinned : Pinned := { name := "ytenjemcehhocoad", sum := "3c4fa7a4feb350ac0c9cf930a56b86453b721856d0a49ad27b78d07793c45c52", checked := Try.checked }
namespace Rows
def none {H : Type} : Left H := { results := [], args := [] }

/-- 'choirlaw5.GapsNone': WHATEVER THE INPUT: true; the input reads as it did. -/
def gapsNoneSpec : ChangeSpec := { name := "gapsNone", fn := fun _ => fun
  | [d1, d2, d3] => { results := [.lit (.bool true)], args := [d1, d2, d3] }
  | _ => none }
def gapsNoneRow : OpenClaim := { program := "ytenjemcehhocoad", sum := "3c4fa7a4feb350ac0c9cf930a56b86453b721856d0a49ad27b78d07793c45c52", func := "choirloft/choirlaw5.GapsNone", spec := "gapsNone", unfollowed := true, recurses := true, apart := false }
def GapsNoneSaid : Prop := gapsNoneRow.holds Try.pinned (OpenSpec.ofChange gapsNoneSpec)

/-- ITS FALSE NEIGHBOUR: 'it returns false'. Refute it at one input. -/
def gapsNoneWrong : ChangeSpec := { name := "gapsNone", fn := fun _ => fun
  | [d1, d2, d3] => { results := [.lit (.bool false)], args := [d1, d2, d3] }
  | _ => none }
def GapsNoneWrongFalsely : Prop := gapsNoneRow.holds Try.pinned (OpenSpec.ofChange gapsNoneWrong)

/-- 'choirlaw2.GapsAsk': WHATEVER THE INPUT: true; the input reads as it did. -/
def gapsAskSpec : ChangeSpec := { name := "gapsAsk", fn := fun _ => fun
  | [d1, d2, d3, d4] => { results := [.lit (.bool true)], args := [d1, d2, d3, d4] }
  | _ => none }
def gapsAskRow : OpenClaim := { program := "ytenjemcehhocoad", sum := "3c4fa7a4feb350ac0c9cf930a56b86453b721856d0a49ad27b78d07793c45c52", func := "choirloft/choirlaw2.GapsAsk", spec := "gapsAsk", unfollowed := true, recurses := true, apart := false }
def GapsAskSaid : Prop := gapsAskRow.holds Try.pinned (OpenSpec.ofChange gapsAskSpec)

/-- ITS FALSE NEIGHBOUR: 'it returns false'. Refute it at one input. -/
def gapsAskWrong : ChangeSpec := { name := "gapsAsk", fn := fun _ => fun
  | [d1, d2, d3, d4] => { results := [.lit (.bool false)], args := [d1, d2, d3, d4] }
  | _ => none }
def GapsAskWrongFalsely : Prop := gapsAskRow.holds Try.pinned (OpenSpec.ofChange gapsAskWrong)

/-- 'choirlaw5.OrderLate': WHATEVER THE INPUT: true; the input reads as it did. -/
def orderLateSpec : ChangeSpec := { name := "orderLate", fn := fun _ => fun
  | [d1, d2, d3] => { results := [.lit (.bool true)], args := [d1, d2, d3] }
  | _ => none }
def orderLateRow : OpenClaim := { program := "ytenjemcehhocoad", sum := "3c4fa7a4feb350ac0c9cf930a56b86453b721856d0a49ad27b78d07793c45c52", func := "choirloft/choirlaw5.OrderLate", spec := "orderLate", apart := false }
def OrderLateSaid : Prop := orderLateRow.holds Try.pinned (OpenSpec.ofChange orderLateSpec)

/-- ITS FALSE NEIGHBOUR: 'it returns false'. Refute it at one input. -/
def orderLateWrong : ChangeSpec := { name := "orderLate", fn := fun _ => fun
  | [d1, d2, d3] => { results := [.lit (.bool false)], args := [d1, d2, d3] }
  | _ => none }
def OrderLateWrongFalsely : Prop := orderLateRow.holds Try.pinned (OpenSpec.ofChange orderLateWrong)

/- THE SECOND FORM. 'bulk': how many values and letters a reading holds, each counted each time it is reached (what is shared counts as often as it is met; a slice's spare places count too). A statement '..UptoSaid' is the law's where the arguments, and the package variables that the reading takes, are together of bulk at most 1048576: NARROWER than '..Said'. Prove '..Said' where nothing that the law and all that it calls make is longer than what came in: it says more and counts as full. Else prove '..UptoSaid'. A law counts once. -/
mutual
def uptoBulk {H : Type} : DataW H → Nat
  | .lit (.string bytes) => bytes.length + 1
  | .lit _ => 1
  | .nil => 1
  | .ptr d => uptoBulk d + 1
  | .slice elems spare => uptoBulkAll elems + uptoBulkAll spare + 1
  | .agg parts => uptoBulkAll parts + 1
  | .iface _ d => uptoBulk d + 1
  | .map entries => uptoBulkEntries entries + 1
  | .held _ => 1
def uptoBulkAll {H : Type} : List (DataW H) → Nat
  | [] => 0
  | d :: r => uptoBulk d + uptoBulkAll r
def uptoBulkEntries {H : Type} : List (Lit × DataW H) → Nat
  | [] => 0
  | x :: r => uptoBulkEntry x + uptoBulkEntries r
def uptoBulkEntry {H : Type} : Lit × DataW H → Nat
  | (.string bytes, d) => bytes.length + uptoBulk d + 1
  | (_, d) => uptoBulk d + 1
 end
def uptoSmall : (H : Type) → List (DataW H) → Bool := fun _ ds => decide (uptoBulkAll ds ≤ 1048576)
def OpenSpec.upto (s : _root_.Go.ChangeSpec) : _root_.Go.OpenSpec := { _root_.Go.OpenSpec.ofChange s with cond := some uptoSmall }

/-- 'choirlaw5.GapsNone', WHERE WHAT IT READS IS OF BULK AT MOST 1048576: true; the input reads as it did. -/
def gapsNoneUptoRow : OpenClaim := { program := "ytenjemcehhocoad", sum := "3c4fa7a4feb350ac0c9cf930a56b86453b721856d0a49ad27b78d07793c45c52", func := "choirloft/choirlaw5.GapsNone", spec := "gapsNone", unfollowed := true, recurses := true, apart := false, narrowed := true }
def GapsNoneUptoSaid : Prop := gapsNoneUptoRow.holds Try.pinned (OpenSpec.upto gapsNoneSpec)

/-- 'choirlaw2.GapsAsk', WHERE WHAT IT READS IS OF BULK AT MOST 1048576: true; the input reads as it did. -/
def gapsAskUptoRow : OpenClaim := { program := "ytenjemcehhocoad", sum := "3c4fa7a4feb350ac0c9cf930a56b86453b721856d0a49ad27b78d07793c45c52", func := "choirloft/choirlaw2.GapsAsk", spec := "gapsAsk", unfollowed := true, recurses := true, apart := false, narrowed := true }
def GapsAskUptoSaid : Prop := gapsAskUptoRow.holds Try.pinned (OpenSpec.upto gapsAskSpec)

/-- 'choirlaw5.OrderLate', WHERE WHAT IT READS IS OF BULK AT MOST 1048576: true; the input reads as it did. -/
def orderLateUptoRow : OpenClaim := { program := "ytenjemcehhocoad", sum := "3c4fa7a4feb350ac0c9cf930a56b86453b721856d0a49ad27b78d07793c45c52", func := "choirloft/choirlaw5.OrderLate", spec := "orderLate", apart := false, narrowed := true }
def OrderLateUptoSaid : Prop := orderLateUptoRow.holds Try.pinned (OpenSpec.upto orderLateSpec)

end Rows
end Go.Proofs.Ytenjemcehhocoad
