/-
  What Path of package tree returns of any parents and any node. It changes nothing that was there.
-/
import Derived.Test.YtpiamlgmadnepaaGreatTreeD
namespace Go.Proofs.YtpiamlgmadnepaaGreat.Tree
open Go.ChangeShapes Go.WideShapes Go.ChangeAt Go.RowKit Go.Proofs.YtpiamlgmadnepaaGreat.Mem Go.Proofs.YtpiamlgmadnepaaGreat.TM
set_option linter.unusedVariables false

/-- what Path gives -/
def pl (P : List Int) (x : Int) : List Int := if bf P x = 0 then (wu P P.length x).reverse else []
theorem pl_len (P : List Int) (x : Int) : (pl P x).length ≤ 16 := by
  unfold pl
  split
  · rename_i h
    have := (bf_zero h).1.len
    have := wu_le P P.length x
    simp
    omega
  · simp
end Go.Proofs.YtpiamlgmadnepaaGreat.Tree

