/-
  What the function Ints of package choirsame returns of two rows of the same numbers; an error of a number held against nil.
-/
import Derived.Test.YtocmajokibfacajGreatBackF
namespace Go.Proofs.YtocmajokibfacajGreat.Back
open Go.ChangeShapes Go.WideShapes Go.ChangeAt Go.RowKit Go.Sort Go.Lib Go.Proofs.YtocmajokibfacajGreat.BM Go.Proofs.YtocmajokibfacajGreat.Mem
set_option linter.unusedVariables false

theorem cmp_eq (f : Nat) (w : World) : (binOp .eql 28 (errv f) .nilIface).run Tryz.prog w = .ok (.bool (decide (f = 0))) w := by
  by_cases p : f = 0
  · rw [p, errv_zero]; simp [go_sem]
  · rw [errv_pos p]; simp [go_sem, p]
theorem cmp_ne (f : Nat) (w : World) : (binOp .neq 28 (errv f) .nilIface).run Tryz.prog w = .ok (.bool (!decide (f = 0))) w := by
  by_cases p : f = 0
  · rw [p, errv_zero]; simp [go_sem]
  · rw [errv_pos p]; simp [go_sem, p]
theorem grd_eq (f : Nat) (o1 : Operand) (w : World) : (eqGuard .eql 28 o1 (.const .nilIface) (errv f) .nilIface).run Tryz.prog w = .ok () w := by
  by_cases p : f = 0
  · rw [p, errv_zero]; unfold eqGuard; simp
  · rw [errv_pos p]; simp [go_sem]
theorem grd_ne (f : Nat) (o1 : Operand) (w : World) : (eqGuard .neq 28 o1 (.const .nilIface) (errv f) .nilIface).run Tryz.prog w = .ok () w := by
  by_cases p : f = 0
  · rw [p, errv_zero]; unfold eqGuard; simp
  · rw [errv_pos p]; simp [go_sem]

set_option maxHeartbeats 1000000 in
set_option maxRecDepth 100000 in
theorem ints_same (a b : Option Addr) (n cap cap' : Nat) (L : List Int) (w : World) (hA : IArg w a n L) (hB : IArg w b n L) :
    Calls Tryz.prog 31 #[.slice a n cap, .slice b n cap'] w fun e w' => e = .returned (.bool true) ∧ Below w.heap.size w w' := by
  have hn := hA.2.2
  have HA := hidden hA
  have HB := hidden hB
  clear hA hB
  go_enter Tryz.func31, Tryz.ntmps31
  go_wp2_with fail
  go_loopg [5] n (fun g y wr => ∃ (i : Nat), i + g = n ∧ y = .int .i64 (i : Int) ∧ Hid (Below w.heap.size w wr))
  case atStart => exact ⟨0, by omega, rfl, Below.refl _ _⟩
  case round =>
    obtain ⟨i, hig, rfl, HW⟩ := hrel
    by_cases hi : i < n
    · have hiz : (i : Int) < (n : Int) := by omega
      obtain ⟨b1, o1, rfl, h1⟩ := (HA.out.below HW.out).at (by omega)
      obtain ⟨b2, o2, rfl, h2⟩ := (HB.out.below HW.out).at (by omega)
      have c1 := h1 i hi
      have c2 := h2 i hi
      clear h1 h2
      generalize L.getD i 0 = x at *
      go_wp2_with fail
      go_quiet (fail)
      go_wp2_with fail
      go_roundg (n - (i + 1))
      case measure => omega
      case rel => exact ⟨i + 1, by omega, by go_num, hidden (below_drewN' HW.out _)⟩
    · have hiz : ¬ (i : Int) < (n : Int) := by omega
      go_wp2_with fail
      go_ret
      exact ⟨rfl, HW.out⟩
end Go.Proofs.YtocmajokibfacajGreat.Back

