/-
  No cell of these rows narrows 'for every input' (looked for: loops, veiled, ifaces, maps, wideKeys, modest, calm, conditions, laid).
  DERIVED. THE GIVEN ROWS OF THIS SEAT. 4 by the template 'for every input the law returns true; each argument reads behind the call as it read before'; 0 by the template 'total and deterministic' (their statements: YtfgponidkfgcpaaGreatTotals.lean).
  GIVEN WITH THE SEED: the statements are not yours to turn. If you find one false, say at which input.
  Laid BY PROGRAM, IN A SANDBOX (cutbox-rows.mjs): the forced cells as the released guide's own fill.sh prints them over the translation ac974ebbb39ac109… (all of the seat's roots in one cut). By AI agents, Wed Nov 11 2026. No macro, syntax, notation, axiom, sorry.
-/
import Derived.Test.YtfgponidkfgcpaaGreatChecked
import GoSem.Claim
import GoSem.ClaimJoined
import GoSem.ClaimMapViews
import Derived.JoinedTies
import Derived.KernelRfl
namespace Go.Proofs.YtfgponidkfgcpaaGreat
/- THE CELL 'sum', in the pinned program and in every row, IS THE sha256 OF THE DUMP (.gsa) THAT YtfgponidkfgcpaaGreatProg.lean LOADS. Nothing in Lean hashes anything: it is a label: what it is worth is what the hold of that sum in a sandbox is worth. -/
noncomputable def Tryz.pinned : Pinned := { name := "ytfgponidkfgcpaagreat", sum := "ac974ebbb39ac109dc59398997f8abd7956f39d9c02f15372278716e95ea7b6b", checked := Tryz.checked }
namespace Rows
def none {H : Type} : Left H := { results := [], args := [] }

/-- 'choirlaw5.MeshQuiet': WHATEVER THE INPUT: true; the input reads as it did. -/
def meshQuietSpec : ChangeSpec := { name := "meshQuiet", fn := fun _ => fun
  | [d1, d2, d3, d4] => { results := [.lit (.bool true)], args := [d1, d2, d3, d4] }
  | _ => none }
def meshQuietRow : OpenClaim := { program := "ytfgponidkfgcpaagreat", sum := "ac974ebbb39ac109dc59398997f8abd7956f39d9c02f15372278716e95ea7b6b", func := "choirloft/choirlaw5.MeshQuiet", spec := "meshQuiet", unfollowed := true, recurses := true, apart := false }
def MeshQuietSaid : Prop := meshQuietRow.holds Tryz.pinned (OpenSpec.ofChange meshQuietSpec)

/-- ITS FALSE NEIGHBOUR: 'it returns false'. Refute it at one input. -/
def meshQuietWrong : ChangeSpec := { name := "meshQuiet", fn := fun _ => fun
  | [d1, d2, d3, d4] => { results := [.lit (.bool false)], args := [d1, d2, d3, d4] }
  | _ => none }
def MeshQuietWrongFalsely : Prop := meshQuietRow.holds Tryz.pinned (OpenSpec.ofChange meshQuietWrong)

/-- 'choirlaw4.MeshMends': WHATEVER THE INPUT: true; the input reads as it did. -/
def meshMendsSpec : ChangeSpec := { name := "meshMends", fn := fun _ => fun
  | [d1, d2, d3, d4] => { results := [.lit (.bool true)], args := [d1, d2, d3, d4] }
  | _ => none }
def meshMendsRow : OpenClaim := { program := "ytfgponidkfgcpaagreat", sum := "ac974ebbb39ac109dc59398997f8abd7956f39d9c02f15372278716e95ea7b6b", func := "choirloft/choirlaw4.MeshMends", spec := "meshMends", unfollowed := true, recurses := true, apart := false }
def MeshMendsSaid : Prop := meshMendsRow.holds Tryz.pinned (OpenSpec.ofChange meshMendsSpec)

/-- ITS FALSE NEIGHBOUR: 'it returns false'. Refute it at one input. -/
def meshMendsWrong : ChangeSpec := { name := "meshMends", fn := fun _ => fun
  | [d1, d2, d3, d4] => { results := [.lit (.bool false)], args := [d1, d2, d3, d4] }
  | _ => none }
def MeshMendsWrongFalsely : Prop := meshMendsRow.holds Tryz.pinned (OpenSpec.ofChange meshMendsWrong)

/-- 'choirtop.TopBytes': WHATEVER THE INPUT: true; the input reads as it did. -/
def topBytesSpec : ChangeSpec := { name := "topBytes", fn := fun _ => fun
  | [d] => { results := [.lit (.bool true)], args := [d] }
  | _ => none }
def topBytesRow : OpenClaim := { program := "ytfgponidkfgcpaagreat", sum := "ac974ebbb39ac109dc59398997f8abd7956f39d9c02f15372278716e95ea7b6b", func := "choirloft/choirtop.TopBytes", spec := "topBytes", unfollowed := true, recurses := true, apart := false }
def TopBytesSaid : Prop := topBytesRow.holds Tryz.pinned (OpenSpec.ofChange topBytesSpec)

/-- ITS FALSE NEIGHBOUR: 'it returns false'. Refute it at one input. -/
def topBytesWrong : ChangeSpec := { name := "topBytes", fn := fun _ => fun
  | [d] => { results := [.lit (.bool false)], args := [d] }
  | _ => none }
def TopBytesWrongFalsely : Prop := topBytesRow.holds Tryz.pinned (OpenSpec.ofChange topBytesWrong)

/-- 'choirtop.TopStar': WHATEVER THE INPUT: true; the input reads as it did. -/
def topStarSpec : ChangeSpec := { name := "topStar", fn := fun _ => fun
  | [d1, d2, d3] => { results := [.lit (.bool true)], args := [d1, d2, d3] }
  | _ => none }
def topStarRow : OpenClaim := { program := "ytfgponidkfgcpaagreat", sum := "ac974ebbb39ac109dc59398997f8abd7956f39d9c02f15372278716e95ea7b6b", func := "choirloft/choirtop.TopStar", spec := "topStar", unfollowed := true, recurses := true, apart := false }
def TopStarSaid : Prop := topStarRow.holds Tryz.pinned (OpenSpec.ofChange topStarSpec)

/-- ITS FALSE NEIGHBOUR: 'it returns false'. Refute it at one input. -/
def topStarWrong : ChangeSpec := { name := "topStar", fn := fun _ => fun
  | [d1, d2, d3] => { results := [.lit (.bool false)], args := [d1, d2, d3] }
  | _ => none }
def TopStarWrongFalsely : Prop := topStarRow.holds Tryz.pinned (OpenSpec.ofChange topStarWrong)

/- THE SECOND FORM. 'bulk': how many values and letters a reading holds, each counted each time it is reached (what is shared counts as often as it is met; a slice's spare places count too). A statement '..UptoSaid' is the law's where the arguments, and the package variables that the reading takes, are together of bulk at most 1048576: NARROWER than '..Said'. Prove '..Said' where nothing that the law and all that it calls make is longer than what came in: it says more and counts as full. Else prove '..UptoSaid'. A law counts once. -/
mutual
def uptoBulk {H : Type} : DataW H → Nat
  | .lit (.string bytes) => bytes.length + 1
  | .lit _ => 1
  | .nil => 1
  | .ptr d => uptoBulk d + 1
  | .slice elems spare => uptoBulkAll elems + uptoBulkAll spare + 1
  | .agg parts => uptoBulkAll parts + 1
  | .iface _ d => uptoBulk d + 1
  | .map entries => uptoBulkEntries entries + 1
  | .held _ => 1
def uptoBulkAll {H : Type} : List (DataW H) → Nat
  | [] => 0
  | d :: r => uptoBulk d + uptoBulkAll r
def uptoBulkEntries {H : Type} : List (Lit × DataW H) → Nat
  | [] => 0
  | x :: r => uptoBulkEntry x + uptoBulkEntries r
def uptoBulkEntry {H : Type} : Lit × DataW H → Nat
  | (.string bytes, d) => bytes.length + uptoBulk d + 1
  | (_, d) => uptoBulk d + 1
 end
def uptoSmall : (H : Type) → List (DataW H) → Bool := fun _ ds => decide (uptoBulkAll ds ≤ 1048576)
def OpenSpec.upto (s : _root_.Go.ChangeSpec) : _root_.Go.OpenSpec := { _root_.Go.OpenSpec.ofChange s with cond := some uptoSmall }

/-- 'choirlaw5.MeshQuiet', WHERE WHAT IT READS IS OF BULK AT MOST 1048576: true; the input reads as it did. -/
def meshQuietUptoRow : OpenClaim := { program := "ytfgponidkfgcpaagreat", sum := "ac974ebbb39ac109dc59398997f8abd7956f39d9c02f15372278716e95ea7b6b", func := "choirloft/choirlaw5.MeshQuiet", spec := "meshQuiet", unfollowed := true, recurses := true, apart := false, narrowed := true }
def MeshQuietUptoSaid : Prop := meshQuietUptoRow.holds Tryz.pinned (OpenSpec.upto meshQuietSpec)

/-- 'choirlaw4.MeshMends', WHERE WHAT IT READS IS OF BULK AT MOST 1048576: true; the input reads as it did. -/
def meshMendsUptoRow : OpenClaim := { program := "ytfgponidkfgcpaagreat", sum := "ac974ebbb39ac109dc59398997f8abd7956f39d9c02f15372278716e95ea7b6b", func := "choirloft/choirlaw4.MeshMends", spec := "meshMends", unfollowed := true, recurses := true, apart := false, narrowed := true }
def MeshMendsUptoSaid : Prop := meshMendsUptoRow.holds Tryz.pinned (OpenSpec.upto meshMendsSpec)

/-- 'choirtop.TopBytes', WHERE WHAT IT READS IS OF BULK AT MOST 1048576: true; the input reads as it did. -/
def topBytesUptoRow : OpenClaim := { program := "ytfgponidkfgcpaagreat", sum := "ac974ebbb39ac109dc59398997f8abd7956f39d9c02f15372278716e95ea7b6b", func := "choirloft/choirtop.TopBytes", spec := "topBytes", unfollowed := true, recurses := true, apart := false, narrowed := true }
def TopBytesUptoSaid : Prop := topBytesUptoRow.holds Tryz.pinned (OpenSpec.upto topBytesSpec)

/-- 'choirtop.TopStar', WHERE WHAT IT READS IS OF BULK AT MOST 1048576: true; the input reads as it did. -/
def topStarUptoRow : OpenClaim := { program := "ytfgponidkfgcpaagreat", sum := "ac974ebbb39ac109dc59398997f8abd7956f39d9c02f15372278716e95ea7b6b", func := "choirloft/choirtop.TopStar", spec := "topStar", unfollowed := true, recurses := true, apart := false, narrowed := true }
def TopStarUptoSaid : Prop := topStarUptoRow.holds Tryz.pinned (OpenSpec.upto topStarSpec)

end Rows
end Go.Proofs.YtfgponidkfgcpaaGreat
