/-
  A packet that came in, opened: its four numbers, its bool, its slice of bytes. Of data alone; no walk.
-/
import Derived.Test.YtfgponidkfgcpaaGreatDoorMemP
import Derived.Test.YtfgponidkfgcpaaGreatDoorRows
import Derived.WalkKit
import Derived.ProofKit
import Derived.OpenShut
import Derived.ChangeOld
import Derived.Below
import Derived.Lib.SmallJoins
namespace Go.Proofs.YtfgponidkfgcpaaGreatDoor.Open
open Go.ChangeShapes Go.WideShapes Go.ChangeAt Go.RowKit Go.Proofs.YtfgponidkfgcpaaGreatDoor.Mem
set_option linter.unusedVariables false
theorem cells3:Tryz.prog.cellsOf 3=1:=by kernel_rfl
end Go.Proofs.YtfgponidkfgcpaaGreatDoor.Open
