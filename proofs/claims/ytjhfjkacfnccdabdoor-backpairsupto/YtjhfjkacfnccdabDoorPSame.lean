/-
  What the function Pairs of package choirsame returns of two rows of the same pairs.
-/
import Derived.Test.YtjhfjkacfnccdabDoorBackG
import Derived.Laws.StructEq
namespace Go.Proofs.YtjhfjkacfnccdabDoor.Back
open Go.ChangeShapes Go.WideShapes Go.ChangeAt Go.RowKit Go.Sort Go.Lib Go.Proofs.YtjhfjkacfnccdabDoor.BM Go.Proofs.YtjhfjkacfnccdabDoor.Mem
set_option linter.unusedVariables false

theorem undPR : Tryd.prog.underlying 89 = some (.struct (Tryd.prog.fieldsOf 89)) := by kernel_rfl
theorem heldPR : Tryd.prog.stoodInHeld 89 = false := by kernel_rfl
theorem grdPR : Tryd.prog.eqGuardType Tryd.prog.depth 89 = false := by kernel_rfl
theorem pgrd (o1 o2 : Operand) (xs ys : Array Value) (w : World) : (eqGuard .neq 89 o1 o2 (.agg xs) (.agg ys)).run Tryd.prog w = .ok () w := run_eqGuard_agg w .neq 89 o1 o2 xs ys grdPR
theorem pcmp (x y : Int) (w : World) : (binOp .neq 89 (.agg #[.int .i64 x, .int .i64 y]) (.agg #[.int .i64 x, .int .i64 y])).run Tryd.prog w = .ok (.bool false) w := by
  rw [run_neq_struct, run_equalIn_agg w 9999 89 _ _ undPR heldPR]
  simp [go_sem]

set_option maxHeartbeats 1000000 in
set_option maxRecDepth 100000 in
theorem prs_same (a b : Option Addr) (n cap cap' : Nat) (L : List (Int × Int)) (w : World) (hA : PArg w a n L) (hB : PArg w b n L) :
    Calls Tryd.prog 25 #[.slice a n cap, .slice b n cap'] w fun e w' => e = .returned (.bool true) ∧ Below w.heap.size w w' := by
  have hn := hA.2.2
  have HA := hidden hA
  have HB := hidden hB
  clear hA hB
  go_enter Tryd.func25, Tryd.ntmps25
  go_wp2_with fail
  go_loopg [5] n (fun g y wr => ∃ (i : Nat), i + g = n ∧ y = .int .i64 (i : Int) ∧ Hid (Below w.heap.size w wr))
  case atStart => exact ⟨0, by omega, rfl, Below.refl _ _⟩
  case round =>
    obtain ⟨i, hig, rfl, HW⟩ := hrel
    by_cases hi : i < n
    · have hiz : (i : Int) < (n : Int) := by omega
      obtain ⟨b1, o1, rfl, _, h1⟩ := (HA.out.below HW.out).at (by omega)
      obtain ⟨b2, o2, rfl, _, h2⟩ := (HB.out.below HW.out).at (by omega)
      obtain ⟨c1, e1⟩ := h1 i hi
      obtain ⟨c2, e2⟩ := h2 i hi
      clear h1 h2
      generalize (L.getD i (0, 0)).1 = x at *
      generalize (L.getD i (0, 0)).2 = y at *
      have hcmp := pcmp x y
      have hgrd := pgrd
      go_wp2_with fail
      go_quiet (fail)
      go_wp2_with fail
      go_roundg (n - (i + 1))
      case measure => omega
      case rel => exact ⟨i + 1, by omega, by go_num, hidden (below_drewN' HW.out _)⟩
    · have hiz : ¬ (i : Int) < (n : Int) := by omega
      go_wp2_with fail
      go_ret
      exact ⟨rfl, HW.out⟩
end Go.Proofs.YtjhfjkacfnccdabDoor.Back
