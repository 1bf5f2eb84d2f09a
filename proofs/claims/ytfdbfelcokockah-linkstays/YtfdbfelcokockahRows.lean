/-
  No cell of these rows narrows 'for every input' (looked for: loops, veiled, ifaces, maps, wideKeys, modest, calm, conditions, laid).
  DERIVED. THE GIVEN ROWS OF THIS SEAT. 5 by the template 'for every input the law returns true; each argument reads behind the call as it read before'; 0 by the template 'total and deterministic' (their statements: YtfdbfelcokockahTotals.lean).
  GIVEN WITH THE SEED: the statements are not yours to turn. If you find one false, say at which input.
  Laid BY PROGRAM, IN A SANDBOX (cutbox-rows.mjs): the forced cells as the released guide's own fill.sh prints them over the translation 5946fd4b99117ea0… (all of the seat's roots in one cut). By AI agents, Wed Nov 11 2026. No macro, syntax, notation, axiom, sorry.
-/
import Derived.Test.YtfdbfelcokockahChecked
import GoSem.Claim
import GoSem.ClaimJoined
import GoSem.ClaimMapViews
import Derived.JoinedTies
import Derived.KernelRfl
namespace Go.Proofs.Ytfdbfelcokockah
/- THE CELL 'sum', in the pinned program and in every row, IS THE sha256 OF THE DUMP (.gsa) THAT YtfdbfelcokockahProg.lean LOADS. Nothing in Lean hashes anything: it is a label: what it is worth is what the hold of that sum in a sandbox is worth. -/
noncomputable def Try.pinned : Pinned := { name := "ytfdbfelcokockah", sum := "5946fd4b99117ea0657d7ca8f3ace925fd3e64e072f2d508db17267d31e5210d", checked := Try.checked }
namespace Rows
def none {H : Type} : Left H := { results := [], args := [] }

/-- 'choirlaw3.RateFair': WHATEVER THE INPUT: true; the input reads as it did. -/
def rateFairSpec : ChangeSpec := { name := "rateFair", fn := fun _ => fun
  | [d1, d2] => { results := [.lit (.bool true)], args := [d1, d2] }
  | _ => none }
def rateFairRow : OpenClaim := { program := "ytfdbfelcokockah", sum := "5946fd4b99117ea0657d7ca8f3ace925fd3e64e072f2d508db17267d31e5210d", func := "choirloft/choirlaw3.RateFair", spec := "rateFair", unfollowed := true, recurses := true, apart := false }
def RateFairSaid : Prop := rateFairRow.holds Try.pinned (OpenSpec.ofChange rateFairSpec)

/-- ITS FALSE NEIGHBOUR: 'it returns false'. Refute it at one input. -/
def rateFairWrong : ChangeSpec := { name := "rateFair", fn := fun _ => fun
  | [d1, d2] => { results := [.lit (.bool false)], args := [d1, d2] }
  | _ => none }
def RateFairWrongFalsely : Prop := rateFairRow.holds Try.pinned (OpenSpec.ofChange rateFairWrong)

/-- 'choirlaw5.RateSettles': WHATEVER THE INPUT: true; the input reads as it did. -/
def rateSettlesSpec : ChangeSpec := { name := "rateSettles", fn := fun _ => fun
  | [d1, d2, d3] => { results := [.lit (.bool true)], args := [d1, d2, d3] }
  | _ => none }
def rateSettlesRow : OpenClaim := { program := "ytfdbfelcokockah", sum := "5946fd4b99117ea0657d7ca8f3ace925fd3e64e072f2d508db17267d31e5210d", func := "choirloft/choirlaw5.RateSettles", spec := "rateSettles", apart := false }
def RateSettlesSaid : Prop := rateSettlesRow.holds Try.pinned (OpenSpec.ofChange rateSettlesSpec)

/-- ITS FALSE NEIGHBOUR: 'it returns false'. Refute it at one input. -/
def rateSettlesWrong : ChangeSpec := { name := "rateSettles", fn := fun _ => fun
  | [d1, d2, d3] => { results := [.lit (.bool false)], args := [d1, d2, d3] }
  | _ => none }
def RateSettlesWrongFalsely : Prop := rateSettlesRow.holds Try.pinned (OpenSpec.ofChange rateSettlesWrong)

/-- 'choirlaw3.VoiceSpeaks': WHATEVER THE INPUT: true; the input reads as it did. -/
def voiceSpeaksSpec : ChangeSpec := { name := "voiceSpeaks", fn := fun _ => fun
  | [d1, d2, d3] => { results := [.lit (.bool true)], args := [d1, d2, d3] }
  | _ => none }
def voiceSpeaksRow : OpenClaim := { program := "ytfdbfelcokockah", sum := "5946fd4b99117ea0657d7ca8f3ace925fd3e64e072f2d508db17267d31e5210d", func := "choirloft/choirlaw3.VoiceSpeaks", spec := "voiceSpeaks", unfollowed := true, recurses := true, apart := false }
def VoiceSpeaksSaid : Prop := voiceSpeaksRow.holds Try.pinned (OpenSpec.ofChange voiceSpeaksSpec)

/-- ITS FALSE NEIGHBOUR: 'it returns false'. Refute it at one input. -/
def voiceSpeaksWrong : ChangeSpec := { name := "voiceSpeaks", fn := fun _ => fun
  | [d1, d2, d3] => { results := [.lit (.bool false)], args := [d1, d2, d3] }
  | _ => none }
def VoiceSpeaksWrongFalsely : Prop := voiceSpeaksRow.holds Try.pinned (OpenSpec.ofChange voiceSpeaksWrong)

/-- 'choirlaw5.VoiceLoud': WHATEVER THE INPUT: true; the input reads as it did. -/
def voiceLoudSpec : ChangeSpec := { name := "voiceLoud", fn := fun _ => fun
  | [d1, d2, d3] => { results := [.lit (.bool true)], args := [d1, d2, d3] }
  | _ => none }
def voiceLoudRow : OpenClaim := { program := "ytfdbfelcokockah", sum := "5946fd4b99117ea0657d7ca8f3ace925fd3e64e072f2d508db17267d31e5210d", func := "choirloft/choirlaw5.VoiceLoud", spec := "voiceLoud", unfollowed := true, recurses := true, apart := false }
def VoiceLoudSaid : Prop := voiceLoudRow.holds Try.pinned (OpenSpec.ofChange voiceLoudSpec)

/-- ITS FALSE NEIGHBOUR: 'it returns false'. Refute it at one input. -/
def voiceLoudWrong : ChangeSpec := { name := "voiceLoud", fn := fun _ => fun
  | [d1, d2, d3] => { results := [.lit (.bool false)], args := [d1, d2, d3] }
  | _ => none }
def VoiceLoudWrongFalsely : Prop := voiceLoudRow.holds Try.pinned (OpenSpec.ofChange voiceLoudWrong)

/-- 'choirlaw5.LinkStays': WHATEVER THE INPUT: true; the input reads as it did. -/
def linkStaysSpec : ChangeSpec := { name := "linkStays", fn := fun _ => fun
  | [d1, d2, d3] => { results := [.lit (.bool true)], args := [d1, d2, d3] }
  | _ => none }
def linkStaysRow : OpenClaim := { program := "ytfdbfelcokockah", sum := "5946fd4b99117ea0657d7ca8f3ace925fd3e64e072f2d508db17267d31e5210d", func := "choirloft/choirlaw5.LinkStays", spec := "linkStays", apart := false }
def LinkStaysSaid : Prop := linkStaysRow.holds Try.pinned (OpenSpec.ofChange linkStaysSpec)

/-- ITS FALSE NEIGHBOUR: 'it returns false'. Refute it at one input. -/
def linkStaysWrong : ChangeSpec := { name := "linkStays", fn := fun _ => fun
  | [d1, d2, d3] => { results := [.lit (.bool false)], args := [d1, d2, d3] }
  | _ => none }
def LinkStaysWrongFalsely : Prop := linkStaysRow.holds Try.pinned (OpenSpec.ofChange linkStaysWrong)

/- THE SECOND FORM. 'bulk': how many values and letters a reading holds, each counted each time it is reached (what is shared counts as often as it is met; a slice's spare places count too). A statement '..UptoSaid' is the law's where the arguments, and the package variables that the reading takes, are together of bulk at most 1048576: NARROWER than '..Said'. Prove '..Said' where nothing that the law and all that it calls make is longer than what came in: it says more and counts as full. Else prove '..UptoSaid'. A law counts once. -/
mutual
def uptoBulk {H : Type} : DataW H → Nat
  | .lit (.string bytes) => bytes.length + 1
  | .lit _ => 1
  | .nil => 1
  | .ptr d => uptoBulk d + 1
  | .slice elems spare => uptoBulkAll elems + uptoBulkAll spare + 1
  | .agg parts => uptoBulkAll parts + 1
  | .iface _ d => uptoBulk d + 1
  | .map entries => uptoBulkEntries entries + 1
  | .held _ => 1
def uptoBulkAll {H : Type} : List (DataW H) → Nat
  | [] => 0
  | d :: r => uptoBulk d + uptoBulkAll r
def uptoBulkEntries {H : Type} : List (Lit × DataW H) → Nat
  | [] => 0
  | x :: r => uptoBulkEntry x + uptoBulkEntries r
def uptoBulkEntry {H : Type} : Lit × DataW H → Nat
  | (.string bytes, d) => bytes.length + uptoBulk d + 1
  | (_, d) => uptoBulk d + 1
 end
def uptoSmall : (H : Type) → List (DataW H) → Bool := fun _ ds => decide (uptoBulkAll ds ≤ 1048576)
def OpenSpec.upto (s : _root_.Go.ChangeSpec) : _root_.Go.OpenSpec := { _root_.Go.OpenSpec.ofChange s with cond := some uptoSmall }

/-- 'choirlaw3.RateFair', WHERE WHAT IT READS IS OF BULK AT MOST 1048576: true; the input reads as it did. -/
def rateFairUptoRow : OpenClaim := { program := "ytfdbfelcokockah", sum := "5946fd4b99117ea0657d7ca8f3ace925fd3e64e072f2d508db17267d31e5210d", func := "choirloft/choirlaw3.RateFair", spec := "rateFair", unfollowed := true, recurses := true, apart := false, narrowed := true }
def RateFairUptoSaid : Prop := rateFairUptoRow.holds Try.pinned (OpenSpec.upto rateFairSpec)

/-- 'choirlaw5.RateSettles', WHERE WHAT IT READS IS OF BULK AT MOST 1048576: true; the input reads as it did. -/
def rateSettlesUptoRow : OpenClaim := { program := "ytfdbfelcokockah", sum := "5946fd4b99117ea0657d7ca8f3ace925fd3e64e072f2d508db17267d31e5210d", func := "choirloft/choirlaw5.RateSettles", spec := "rateSettles", apart := false, narrowed := true }
def RateSettlesUptoSaid : Prop := rateSettlesUptoRow.holds Try.pinned (OpenSpec.upto rateSettlesSpec)

/-- 'choirlaw3.VoiceSpeaks', WHERE WHAT IT READS IS OF BULK AT MOST 1048576: true; the input reads as it did. -/
def voiceSpeaksUptoRow : OpenClaim := { program := "ytfdbfelcokockah", sum := "5946fd4b99117ea0657d7ca8f3ace925fd3e64e072f2d508db17267d31e5210d", func := "choirloft/choirlaw3.VoiceSpeaks", spec := "voiceSpeaks", unfollowed := true, recurses := true, apart := false, narrowed := true }
def VoiceSpeaksUptoSaid : Prop := voiceSpeaksUptoRow.holds Try.pinned (OpenSpec.upto voiceSpeaksSpec)

/-- 'choirlaw5.VoiceLoud', WHERE WHAT IT READS IS OF BULK AT MOST 1048576: true; the input reads as it did. -/
def voiceLoudUptoRow : OpenClaim := { program := "ytfdbfelcokockah", sum := "5946fd4b99117ea0657d7ca8f3ace925fd3e64e072f2d508db17267d31e5210d", func := "choirloft/choirlaw5.VoiceLoud", spec := "voiceLoud", unfollowed := true, recurses := true, apart := false, narrowed := true }
def VoiceLoudUptoSaid : Prop := voiceLoudUptoRow.holds Try.pinned (OpenSpec.upto voiceLoudSpec)

/-- 'choirlaw5.LinkStays', WHERE WHAT IT READS IS OF BULK AT MOST 1048576: true; the input reads as it did. -/
def linkStaysUptoRow : OpenClaim := { program := "ytfdbfelcokockah", sum := "5946fd4b99117ea0657d7ca8f3ace925fd3e64e072f2d508db17267d31e5210d", func := "choirloft/choirlaw5.LinkStays", spec := "linkStays", apart := false, narrowed := true }
def LinkStaysUptoSaid : Prop := linkStaysUptoRow.holds Try.pinned (OpenSpec.upto linkStaysSpec)

end Rows
end Go.Proofs.Ytfdbfelcokockah
