/-
  No cell of these rows narrows 'for every input' (looked for: loops, veiled, ifaces, maps, wideKeys, modest, calm, conditions, laid).
  DERIVED. THE GIVEN ROWS OF THIS SEAT. 4 by the template 'for every input the law returns true; each argument reads behind the call as it read before'; 0 by the template 'total and deterministic' (their statements: YtblmjllignibgaeTotals.lean).
  GIVEN WITH THE SEED: the statements are not yours to turn. If you find one false, say at which input.
  Laid BY PROGRAM, IN A SANDBOX (cutbox-rows.mjs): the forced cells as the released guide's own fill.sh prints them over the translation 42db87f125238659… (all of the seat's roots in one cut). By AI agents, Wed Nov 11 2026. No macro, syntax, notation, axiom, sorry.
-/
import Derived.Test.YtblmjllignibgaeChecked
import GoSem.Claim
import GoSem.ClaimJoined
import GoSem.ClaimMapViews
import Derived.JoinedTies
import Derived.KernelRfl
namespace Go.Proofs.Ytblmjllignibgae
/- THE CELL 'sum', in the pinned program and in every row, IS THE sha256 OF THE DUMP (.gsa) THAT YtblmjllignibgaeProg.lean LOADS. Nothing in Lean hashes anything: it is a label: what it is worth is what the hold of that sum in a sandbox is worth. -/
noncomputable def Try.pinned : Pinned := { name := "ytblmjllignibgae", sum := "42db87f1252386590da46dfb6d7bbca368020725d1fc560b4cad7f44a4e54438", checked := Try.checked }
namespace Rows
def none {H : Type} : Left H := { results := [], args := [] }

/-- 'choirlaw2.OrderRow': WHATEVER THE INPUT: true; the input reads as it did. -/
def orderRowSpec : ChangeSpec := { name := "orderRow", fn := fun _ => fun
  | [d1, d2, d3] => { results := [.lit (.bool true)], args := [d1, d2, d3] }
  | _ => none }
def orderRowRow : OpenClaim := { program := "ytblmjllignibgae", sum := "42db87f1252386590da46dfb6d7bbca368020725d1fc560b4cad7f44a4e54438", func := "choirloft/choirlaw2.OrderRow", spec := "orderRow", apart := false }
def OrderRowSaid : Prop := orderRowRow.holds Try.pinned (OpenSpec.ofChange orderRowSpec)

/-- ITS FALSE NEIGHBOUR: 'it returns false'. Refute it at one input. -/
def orderRowWrong : ChangeSpec := { name := "orderRow", fn := fun _ => fun
  | [d1, d2, d3] => { results := [.lit (.bool false)], args := [d1, d2, d3] }
  | _ => none }
def OrderRowWrongFalsely : Prop := orderRowRow.holds Try.pinned (OpenSpec.ofChange orderRowWrong)

/-- 'choirlaw2.LayerStarts': WHATEVER THE INPUT: true; the input reads as it did. -/
def layerStartsSpec : ChangeSpec := { name := "layerStarts", fn := fun _ => fun
  | [d1, d2, d3] => { results := [.lit (.bool true)], args := [d1, d2, d3] }
  | _ => none }
def layerStartsRow : OpenClaim := { program := "ytblmjllignibgae", sum := "42db87f1252386590da46dfb6d7bbca368020725d1fc560b4cad7f44a4e54438", func := "choirloft/choirlaw2.LayerStarts", spec := "layerStarts", apart := false }
def LayerStartsSaid : Prop := layerStartsRow.holds Try.pinned (OpenSpec.ofChange layerStartsSpec)

/-- ITS FALSE NEIGHBOUR: 'it returns false'. Refute it at one input. -/
def layerStartsWrong : ChangeSpec := { name := "layerStarts", fn := fun _ => fun
  | [d1, d2, d3] => { results := [.lit (.bool false)], args := [d1, d2, d3] }
  | _ => none }
def LayerStartsWrongFalsely : Prop := layerStartsRow.holds Try.pinned (OpenSpec.ofChange layerStartsWrong)

/-- 'choirlaw5.LayerClimbs': WHATEVER THE INPUT: true; the input reads as it did. -/
def layerClimbsSpec : ChangeSpec := { name := "layerClimbs", fn := fun _ => fun
  | [d1, d2, d3, d4] => { results := [.lit (.bool true)], args := [d1, d2, d3, d4] }
  | _ => none }
def layerClimbsRow : OpenClaim := { program := "ytblmjllignibgae", sum := "42db87f1252386590da46dfb6d7bbca368020725d1fc560b4cad7f44a4e54438", func := "choirloft/choirlaw5.LayerClimbs", spec := "layerClimbs", apart := false }
def LayerClimbsSaid : Prop := layerClimbsRow.holds Try.pinned (OpenSpec.ofChange layerClimbsSpec)

/-- ITS FALSE NEIGHBOUR: 'it returns false'. Refute it at one input. -/
def layerClimbsWrong : ChangeSpec := { name := "layerClimbs", fn := fun _ => fun
  | [d1, d2, d3, d4] => { results := [.lit (.bool false)], args := [d1, d2, d3, d4] }
  | _ => none }
def LayerClimbsWrongFalsely : Prop := layerClimbsRow.holds Try.pinned (OpenSpec.ofChange layerClimbsWrong)

/-- 'choirlaw2.OutRow': WHATEVER THE INPUT: true; the input reads as it did. -/
def outRowSpec : ChangeSpec := { name := "outRow", fn := fun _ => fun
  | [d1, d2, d3] => { results := [.lit (.bool true)], args := [d1, d2, d3] }
  | _ => none }
def outRowRow : OpenClaim := { program := "ytblmjllignibgae", sum := "42db87f1252386590da46dfb6d7bbca368020725d1fc560b4cad7f44a4e54438", func := "choirloft/choirlaw2.OutRow", spec := "outRow", apart := false }
def OutRowSaid : Prop := outRowRow.holds Try.pinned (OpenSpec.ofChange outRowSpec)

/-- ITS FALSE NEIGHBOUR: 'it returns false'. Refute it at one input. -/
def outRowWrong : ChangeSpec := { name := "outRow", fn := fun _ => fun
  | [d1, d2, d3] => { results := [.lit (.bool false)], args := [d1, d2, d3] }
  | _ => none }
def OutRowWrongFalsely : Prop := outRowRow.holds Try.pinned (OpenSpec.ofChange outRowWrong)

/- THE SECOND FORM. 'bulk': how many values and letters a reading holds, each counted each time it is reached (what is shared counts as often as it is met; a slice's spare places count too). A statement '..UptoSaid' is the law's where the arguments, and the package variables that the reading takes, are together of bulk at most 1048576: NARROWER than '..Said'. Prove '..Said' where nothing that the law and all that it calls make is longer than what came in: it says more and counts as full. Else prove '..UptoSaid'. A law counts once. -/
mutual
def uptoBulk {H : Type} : DataW H → Nat
  | .lit (.string bytes) => bytes.length + 1
  | .lit _ => 1
  | .nil => 1
  | .ptr d => uptoBulk d + 1
  | .slice elems spare => uptoBulkAll elems + uptoBulkAll spare + 1
  | .agg parts => uptoBulkAll parts + 1
  | .iface _ d => uptoBulk d + 1
  | .map entries => uptoBulkEntries entries + 1
  | .held _ => 1
def uptoBulkAll {H : Type} : List (DataW H) → Nat
  | [] => 0
  | d :: r => uptoBulk d + uptoBulkAll r
def uptoBulkEntries {H : Type} : List (Lit × DataW H) → Nat
  | [] => 0
  | x :: r => uptoBulkEntry x + uptoBulkEntries r
def uptoBulkEntry {H : Type} : Lit × DataW H → Nat
  | (.string bytes, d) => bytes.length + uptoBulk d + 1
  | (_, d) => uptoBulk d + 1
 end
def uptoSmall : (H : Type) → List (DataW H) → Bool := fun _ ds => decide (uptoBulkAll ds ≤ 1048576)
def OpenSpec.upto (s : _root_.Go.ChangeSpec) : _root_.Go.OpenSpec := { _root_.Go.OpenSpec.ofChange s with cond := some uptoSmall }

/-- 'choirlaw2.OrderRow', WHERE WHAT IT READS IS OF BULK AT MOST 1048576: true; the input reads as it did. -/
def orderRowUptoRow : OpenClaim := { program := "ytblmjllignibgae", sum := "42db87f1252386590da46dfb6d7bbca368020725d1fc560b4cad7f44a4e54438", func := "choirloft/choirlaw2.OrderRow", spec := "orderRow", apart := false, narrowed := true }
def OrderRowUptoSaid : Prop := orderRowUptoRow.holds Try.pinned (OpenSpec.upto orderRowSpec)

/-- 'choirlaw2.LayerStarts', WHERE WHAT IT READS IS OF BULK AT MOST 1048576: true; the input reads as it did. -/
def layerStartsUptoRow : OpenClaim := { program := "ytblmjllignibgae", sum := "42db87f1252386590da46dfb6d7bbca368020725d1fc560b4cad7f44a4e54438", func := "choirloft/choirlaw2.LayerStarts", spec := "layerStarts", apart := false, narrowed := true }
def LayerStartsUptoSaid : Prop := layerStartsUptoRow.holds Try.pinned (OpenSpec.upto layerStartsSpec)

/-- 'choirlaw5.LayerClimbs', WHERE WHAT IT READS IS OF BULK AT MOST 1048576: true; the input reads as it did. -/
def layerClimbsUptoRow : OpenClaim := { program := "ytblmjllignibgae", sum := "42db87f1252386590da46dfb6d7bbca368020725d1fc560b4cad7f44a4e54438", func := "choirloft/choirlaw5.LayerClimbs", spec := "layerClimbs", apart := false, narrowed := true }
def LayerClimbsUptoSaid : Prop := layerClimbsUptoRow.holds Try.pinned (OpenSpec.upto layerClimbsSpec)

/-- 'choirlaw2.OutRow', WHERE WHAT IT READS IS OF BULK AT MOST 1048576: true; the input reads as it did. -/
def outRowUptoRow : OpenClaim := { program := "ytblmjllignibgae", sum := "42db87f1252386590da46dfb6d7bbca368020725d1fc560b4cad7f44a4e54438", func := "choirloft/choirlaw2.OutRow", spec := "outRow", apart := false, narrowed := true }
def OutRowUptoSaid : Prop := outRowUptoRow.holds Try.pinned (OpenSpec.upto outRowSpec)

end Rows
end Go.Proofs.Ytblmjllignibgae
