/-
 Rows of numbers and of wants in memory; an error of a number held against nil. Of worlds alone; no walk.
-/
import Derived.Test.YtpiamlgmadnepaaGreatMathAll
import Derived.Test.YtpiamlgmadnepaaGreatRows
import Derived.WalkKit
import Derived.ProofKit
import Derived.OpenShut
import Derived.ChangeOld
import Derived.Below
import Derived.Deep.QuietTactic
import Derived.BigQuiet
import Derived.Laws.AppendOwnNone
import Derived.WalkSmall
import Derived.WalkSpells
import Derived.LoopTactic
import Derived.RegionTactic
import Derived.Deep.AppendLies
import Derived.Deep.LoopGhost
import Derived.Outline
set_option linter.unusedVariables false
namespace Go.Proofs.YtpiamlgmadnepaaGreat.Pull
open Go.ChangeShapes Go.WideShapes Go.ChangeAt Go.RowKit Go.Maps Mem PU
def errv (e:Nat):Value:=if e=0 then .nilIface else .iface 101 (.int .i64 (e:Int))
theorem ξ4:errv 0=.nilIface:=rfl
theorem ξi {e:Nat} (h:e≠0):errv e=.iface 101 (.int .i64 (e:Int)):=by simp [errv,h]
theorem ξr (f:Nat) (w:World):(binOp .neq 25 (errv f) .nilIface).run Tryz.prog w=.ok (.bool (!decide (f=0))) w:=by
 by_cases p:f=0
 ·rw [p,ξ4];simp [go_sem]
 ·rw [ξi p];simp [go_sem,p]
theorem ξq (f:Nat) (o1:Operand) (w:World):(eqGuard .neq 25 o1 (.const .nilIface) (errv f) .nilIface).run Tryz.prog w=.ok () w:=by
 by_cases p:f=0
 ·rw [p,ξ4];unfold eqGuard;simp
 ·rw [ξi p];simp [go_sem]
theorem ξL {y:Int} (h0:-9223372036854775808<=y) (h1:y<=9223372036854775807):(Lit.int .i64 y).wf=true:=WalkArith.wf_i64 (by omega)
theorem ξa {w wr:World} (h:Below w.heap.size w wr) (o:Obj):Below w.heap.size w (wr.alloc o):=h.alloc h.size o
end Go.Proofs.YtpiamlgmadnepaaGreat.Pull
