/-
  What the function Ints of package choirsame returns of two rows of the same numbers; an error of a number held against nil.
-/
import Derived.Test.YtpiamlgmadnepaaGreatBackF
namespace Go.Proofs.YtpiamlgmadnepaaGreat.Back
open Go.ChangeShapes Go.WideShapes Go.ChangeAt Go.RowKit Go.Sort Go.Lib Go.Proofs.YtpiamlgmadnepaaGreat.BM Go.Proofs.YtpiamlgmadnepaaGreat.Mem
set_option linter.unusedVariables false

theorem cmp_eq (f : Nat) (w : World) : (binOp .eql 25 (errv f) .nilIface).run Tryz.prog w = .ok (.bool (decide (f = 0))) w := by
  by_cases p : f = 0
  · rw [p, errv_zero]; simp [go_sem]
  · rw [errv_pos p]; simp [go_sem, p]
theorem cmp_ne (f : Nat) (w : World) : (binOp .neq 25 (errv f) .nilIface).run Tryz.prog w = .ok (.bool (!decide (f = 0))) w := by
  by_cases p : f = 0
  · rw [p, errv_zero]; simp [go_sem]
  · rw [errv_pos p]; simp [go_sem, p]
theorem grd_eq (f : Nat) (o1 : Operand) (w : World) : (eqGuard .eql 25 o1 (.const .nilIface) (errv f) .nilIface).run Tryz.prog w = .ok () w := by
  by_cases p : f = 0
  · rw [p, errv_zero]; unfold eqGuard; simp
  · rw [errv_pos p]; simp [go_sem]
theorem grd_ne (f : Nat) (o1 : Operand) (w : World) : (eqGuard .neq 25 o1 (.const .nilIface) (errv f) .nilIface).run Tryz.prog w = .ok () w := by
  by_cases p : f = 0
  · rw [p, errv_zero]; unfold eqGuard; simp
  · rw [errv_pos p]; simp [go_sem]

end Go.Proofs.YtpiamlgmadnepaaGreat.Back

