/-
  No cell of these rows narrows 'for every input' (looked for: loops, veiled, ifaces, maps, wideKeys, modest, calm, conditions, laid).
  DERIVED. THE GIVEN ROWS OF THIS SEAT. 3 by the template 'for every input the law returns true; each argument reads behind the call as it read before'; 0 by the template 'total and deterministic' (their statements: YtpiamlgmadnepaaGreatTotals.lean).
  GIVEN WITH THE SEED: the statements are not yours to turn. If you find one false, say at which input.
  Laid BY PROGRAM, IN A SANDBOX (cutbox-rows.mjs): the forced cells as the released guide's own fill.sh prints them over the translation c006b13198534f45… (all of the seat's roots in one cut). By AI agents, Wed Nov 11 2026. No macro, syntax, notation, axiom, sorry.
-/
import Derived.Test.YtpiamlgmadnepaaGreatChecked
import GoSem.Claim
import GoSem.ClaimJoined
import GoSem.ClaimMapViews
import Derived.JoinedTies
import Derived.KernelRfl
namespace Go.Proofs.YtpiamlgmadnepaaGreat
/- THE CELL 'sum', in the pinned program and in every row, IS THE sha256 OF THE DUMP (.gsa) THAT YtpiamlgmadnepaaGreatProg.lean LOADS. Nothing in Lean hashes anything: it is a label: what it is worth is what the hold of that sum in a sandbox is worth. -/
noncomputable def Tryz.pinned : Pinned := { name := "ytpiamlgmadnepaagreat", sum := "c006b13198534f4574c1fbf90ef7765b197ffbc2fce5548ed5b7b2e764a95139", checked := Tryz.checked }
namespace Rows
def none {H : Type} : Left H := { results := [], args := [] }

/-- 'choirlaw4.MeshMends': WHATEVER THE INPUT: true; the input reads as it did. -/
def meshMendsSpec : ChangeSpec := { name := "meshMends", fn := fun _ => fun
  | [d1, d2, d3, d4] => { results := [.lit (.bool true)], args := [d1, d2, d3, d4] }
  | _ => none }
def meshMendsRow : OpenClaim := { program := "ytpiamlgmadnepaagreat", sum := "c006b13198534f4574c1fbf90ef7765b197ffbc2fce5548ed5b7b2e764a95139", func := "choirloft/choirlaw4.MeshMends", spec := "meshMends", unfollowed := true, recurses := true, apart := false }
def MeshMendsSaid : Prop := meshMendsRow.holds Tryz.pinned (OpenSpec.ofChange meshMendsSpec)

/-- ITS FALSE NEIGHBOUR: 'it returns false'. Refute it at one input. -/
def meshMendsWrong : ChangeSpec := { name := "meshMends", fn := fun _ => fun
  | [d1, d2, d3, d4] => { results := [.lit (.bool false)], args := [d1, d2, d3, d4] }
  | _ => none }
def MeshMendsWrongFalsely : Prop := meshMendsRow.holds Tryz.pinned (OpenSpec.ofChange meshMendsWrong)

/-- 'choirlaw4.MeshDelivers': WHATEVER THE INPUT: true; the input reads as it did. -/
def meshDeliversSpec : ChangeSpec := { name := "meshDelivers", fn := fun _ => fun
  | [d1, d2, d3, d4, d5, d6, d7] => { results := [.lit (.bool true)], args := [d1, d2, d3, d4, d5, d6, d7] }
  | _ => none }
def meshDeliversRow : OpenClaim := { program := "ytpiamlgmadnepaagreat", sum := "c006b13198534f4574c1fbf90ef7765b197ffbc2fce5548ed5b7b2e764a95139", func := "choirloft/choirlaw4.MeshDelivers", spec := "meshDelivers", unfollowed := true, recurses := true, apart := false }
def MeshDeliversSaid : Prop := meshDeliversRow.holds Tryz.pinned (OpenSpec.ofChange meshDeliversSpec)

/-- ITS FALSE NEIGHBOUR: 'it returns false'. Refute it at one input. -/
def meshDeliversWrong : ChangeSpec := { name := "meshDelivers", fn := fun _ => fun
  | [d1, d2, d3, d4, d5, d6, d7] => { results := [.lit (.bool false)], args := [d1, d2, d3, d4, d5, d6, d7] }
  | _ => none }
def MeshDeliversWrongFalsely : Prop := meshDeliversRow.holds Tryz.pinned (OpenSpec.ofChange meshDeliversWrong)

/-- 'choirtop.TopRow': WHATEVER THE INPUT: true; the input reads as it did. -/
def topRowSpec : ChangeSpec := { name := "topRow", fn := fun _ => fun
  | [d1, d2] => { results := [.lit (.bool true)], args := [d1, d2] }
  | _ => none }
def topRowRow : OpenClaim := { program := "ytpiamlgmadnepaagreat", sum := "c006b13198534f4574c1fbf90ef7765b197ffbc2fce5548ed5b7b2e764a95139", func := "choirloft/choirtop.TopRow", spec := "topRow", unfollowed := true, recurses := true, apart := false }
def TopRowSaid : Prop := topRowRow.holds Tryz.pinned (OpenSpec.ofChange topRowSpec)

/-- ITS FALSE NEIGHBOUR: 'it returns false'. Refute it at one input. -/
def topRowWrong : ChangeSpec := { name := "topRow", fn := fun _ => fun
  | [d1, d2] => { results := [.lit (.bool false)], args := [d1, d2] }
  | _ => none }
def TopRowWrongFalsely : Prop := topRowRow.holds Tryz.pinned (OpenSpec.ofChange topRowWrong)

/- THE SECOND FORM. 'bulk': how many values and letters a reading holds, each counted each time it is reached (what is shared counts as often as it is met; a slice's spare places count too). A statement '..UptoSaid' is the law's where the arguments, and the package variables that the reading takes, are together of bulk at most 1048576: NARROWER than '..Said'. Prove '..Said' where nothing that the law and all that it calls make is longer than what came in: it says more and counts as full. Else prove '..UptoSaid'. A law counts once. -/
mutual
def uptoBulk {H : Type} : DataW H → Nat
  | .lit (.string bytes) => bytes.length + 1
  | .lit _ => 1
  | .nil => 1
  | .ptr d => uptoBulk d + 1
  | .slice elems spare => uptoBulkAll elems + uptoBulkAll spare + 1
  | .agg parts => uptoBulkAll parts + 1
  | .iface _ d => uptoBulk d + 1
  | .map entries => uptoBulkEntries entries + 1
  | .held _ => 1
def uptoBulkAll {H : Type} : List (DataW H) → Nat
  | [] => 0
  | d :: r => uptoBulk d + uptoBulkAll r
def uptoBulkEntries {H : Type} : List (Lit × DataW H) → Nat
  | [] => 0
  | x :: r => uptoBulkEntry x + uptoBulkEntries r
def uptoBulkEntry {H : Type} : Lit × DataW H → Nat
  | (.string bytes, d) => bytes.length + uptoBulk d + 1
  | (_, d) => uptoBulk d + 1
 end
def uptoSmall : (H : Type) → List (DataW H) → Bool := fun _ ds => decide (uptoBulkAll ds ≤ 1048576)
def OpenSpec.upto (s : _root_.Go.ChangeSpec) : _root_.Go.OpenSpec := { _root_.Go.OpenSpec.ofChange s with cond := some uptoSmall }

/-- 'choirlaw4.MeshMends', WHERE WHAT IT READS IS OF BULK AT MOST 1048576: true; the input reads as it did. -/
def meshMendsUptoRow : OpenClaim := { program := "ytpiamlgmadnepaagreat", sum := "c006b13198534f4574c1fbf90ef7765b197ffbc2fce5548ed5b7b2e764a95139", func := "choirloft/choirlaw4.MeshMends", spec := "meshMends", unfollowed := true, recurses := true, apart := false, narrowed := true }
def MeshMendsUptoSaid : Prop := meshMendsUptoRow.holds Tryz.pinned (OpenSpec.upto meshMendsSpec)

/-- 'choirlaw4.MeshDelivers', WHERE WHAT IT READS IS OF BULK AT MOST 1048576: true; the input reads as it did. -/
def meshDeliversUptoRow : OpenClaim := { program := "ytpiamlgmadnepaagreat", sum := "c006b13198534f4574c1fbf90ef7765b197ffbc2fce5548ed5b7b2e764a95139", func := "choirloft/choirlaw4.MeshDelivers", spec := "meshDelivers", unfollowed := true, recurses := true, apart := false, narrowed := true }
def MeshDeliversUptoSaid : Prop := meshDeliversUptoRow.holds Tryz.pinned (OpenSpec.upto meshDeliversSpec)

/-- 'choirtop.TopRow', WHERE WHAT IT READS IS OF BULK AT MOST 1048576: true; the input reads as it did. -/
def topRowUptoRow : OpenClaim := { program := "ytpiamlgmadnepaagreat", sum := "c006b13198534f4574c1fbf90ef7765b197ffbc2fce5548ed5b7b2e764a95139", func := "choirloft/choirtop.TopRow", spec := "topRow", unfollowed := true, recurses := true, apart := false, narrowed := true }
def TopRowUptoSaid : Prop := topRowUptoRow.holds Tryz.pinned (OpenSpec.upto topRowSpec)

end Rows
end Go.Proofs.YtpiamlgmadnepaaGreat
