/-
  What the function Read of package pack returns, and what it makes. It changes nothing that was there.
-/
import Derived.Test.YtdmajaofjfgccabDoorPackB
import Derived.Deep.RegionHeld3
namespace Go.Proofs.YtdmajaofjfgccabDoor.Pack
open Go.ChangeShapes Go.WideShapes Go.ChangeAt Go.RowKit Go.Proofs.YtdmajaofjfgccabDoor.PM Go.Proofs.YtdmajaofjfgccabDoor.Mem
set_option linter.unusedVariables false

/-- bytes that are there lie somewhere -/
theorem arg_at {w : World} {a : Option Addr} {n : Nat} {L : List Nat} (h : Arg w a n L) (hn : 0 < n) : ∃ b o, a = some ⟨b, o, none⟩ := by
  obtain ⟨b, o, e, _⟩ := h.1.2 0 (by have := h.2.1; omega)
  exact ⟨b, o, e⟩
theorem arg_cell {w : World} {b o n : Nat} {L : List Nat} (h : Arg w (some ⟨b, o, none⟩) n L) (j : Nat) (hj : j < n) : w.cell? ⟨b, o + j, none⟩ = some (.int .u8 (L.getD j 0 : Nat)) := by
  obtain ⟨b', o', e, hc⟩ := h.1.2 j (by have := h.2.1; omega)
  simp only [Option.some.injEq, Addr.mk.injEq, and_true] at e
  obtain ⟨rfl, rfl⟩ := e
  exact hc

set_option maxHeartbeats 1000000 in
set_option maxRecDepth 100000 in
theorem read_short (a : Option Addr) (n cap : Nat) (w : World) (h : n < 8) :
    Calls Tryd.prog 17 #[.slice a n cap] w fun e w' => e = .returned (.tuple #[.agg #[.int .i64 0, .int .i64 0, .int .i64 0, .int .i64 0, .bool false, .slice none 0 0], .iface 56 (.int .i64 8)]) ∧ Below w.heap.size w w' := by
  go_enter Tryd.func17, Tryd.ntmps17
  go_wp2_with fail
  refine bodyPost_ret (v := .tuple #[.agg #[.int .i64 0, .int .i64 0, .int .i64 0, .int .i64 0, .bool false, .slice none 0 0], .iface 56 (.int .i64 8)]) (by simp [results, Tryd.results17, go_sem]) rfl ?_
  exact ⟨rfl, (Below.refl _ _).alloc (Nat.le_refl _) _⟩

theorem cell_alloc {w : World} {p : Addr} {v : Value} (h : w.cell? p = some v) (o : Obj) : (w.alloc o).cell? p = some v := (((Below.refl _ _).alloc (Nat.le_refl _) o).cell (World.block_lt_of_cell? w p h)).trans h

set_option maxHeartbeats 1000000 in
set_option maxRecDepth 100000 in
theorem read_syntax (b o n cap x0 x1 : Nat) (w : World) (hn : 8 ≤ n) (hx0 : x0 < 256) (hx1 : x1 < 256) (c0 : w.cell? ⟨b, o, none⟩ = some (.int .u8 (x0 : Int))) (c1 : w.cell? ⟨b, o + 1, none⟩ = some (.int .u8 (x1 : Int))) (hbad : (good x0 && decide (x1 ≤ 127)) = false) :
    Calls Tryd.prog 17 #[.slice (some ⟨b, o, none⟩) n cap] w fun e w' => e = .returned (.tuple #[.agg #[.int .i64 0, .int .i64 0, .int .i64 0, .int .i64 0, .bool false, .slice none 0 0], .iface 56 (.int .i64 2)]) ∧ Below w.heap.size w w' := by
  rw [lay_eq hx0] at hbad
  have d0 := fun O => cell_alloc c0 O
  have d1 := fun O => cell_alloc c1 O
  have n1 : (1 : Int) < (n : Int) := by omega
  have n0 : (0 : Int) < (n : Int) := by omega
  have n8 : decide ((n : Int) < 8) = false := by simp; omega
  clear c0 c1
  by_cases p1 : bits .and .u8 (x0 : Int) 128 = 0
  · clear hbad
    go_enter Tryd.func17, Tryd.ntmps17
    go_wp2_with fail
    refine bodyPost_ret (v := .tuple #[.agg #[.int .i64 0, .int .i64 0, .int .i64 0, .int .i64 0, .bool false, .slice none 0 0], .iface 56 (.int .i64 2)]) (by simp [results, Tryd.results17, go_sem]) rfl ?_
    exact ⟨rfl, (Below.refl _ _).alloc (Nat.le_refl _) _⟩
  by_cases p2 : 3 < bits .andNot .i64 (x0 : Int) 160
  · clear hbad
    go_enter Tryd.func17, Tryd.ntmps17
    go_wp2_with fail
    refine bodyPost_ret (v := .tuple #[.agg #[.int .i64 0, .int .i64 0, .int .i64 0, .int .i64 0, .bool false, .slice none 0 0], .iface 56 (.int .i64 2)]) (by simp [results, Tryd.results17, go_sem]) rfl ?_
    exact ⟨rfl, (Below.refl _ _).alloc (Nat.le_refl _) _⟩
  have p3 : (127 : Int) < (x1 : Int) := by
    simp [p1, p2] at hbad
    omega
  clear hbad
  have q1 : (bits .and .u8 (x0 : Int) 128 == 0) = false := by simpa using p1
  have q2 : decide (3 < bits .andNot .i64 (x0 : Int) 160) = false := by simpa using p2
  go_enter Tryd.func17, Tryd.ntmps17
  go_wp2_with fail
  refine bodyPost_ret (v := .tuple #[.agg #[.int .i64 0, .int .i64 0, .int .i64 0, .int .i64 0, .bool false, .slice none 0 0], .iface 56 (.int .i64 2)]) (by simp [results, Tryd.results17, go_sem]) rfl ?_
  exact ⟨rfl, (Below.refl _ _).alloc (Nat.le_refl _) _⟩

set_option maxHeartbeats 1000000 in
set_option maxRecDepth 100000 in
theorem read_full (b o n cap x0 x1 : Nat) (w : World) (hn : 1008 < n) (hx0 : x0 < 256) (hx1 : x1 < 256) (c0 : w.cell? ⟨b, o, none⟩ = some (.int .u8 (x0 : Int))) (c1 : w.cell? ⟨b, o + 1, none⟩ = some (.int .u8 (x1 : Int))) (hok : (good x0 && decide (x1 ≤ 127)) = true) (hmax : n ≤ 9223372036854775807) :
    Calls Tryd.prog 17 #[.slice (some ⟨b, o, none⟩) n cap] w fun e w' => e = .returned (.tuple #[.agg #[.int .i64 0, .int .i64 0, .int .i64 0, .int .i64 0, .bool false, .slice none 0 0], .iface 56 (.int .i64 4)]) ∧ Below w.heap.size w w' := by
  rw [lay_eq hx0] at hok
  simp only [Bool.and_eq_true, Bool.not_eq_true', decide_eq_true_eq] at hok
  obtain ⟨⟨q1, q2⟩, q3⟩ := hok
  have d0 := fun O => cell_alloc c0 O
  have d1 := fun O => cell_alloc c1 O
  have n1 : (1 : Int) < (n : Int) := by omega
  have n0 : (0 : Int) < (n : Int) := by omega
  have n8 : decide ((n : Int) < 8) = false := by simp; omega
  have q4 : decide ((127 : Int) < (x1 : Int)) = false := by simp; omega
  clear c0 c1
  go_enter Tryd.func17, Tryd.ntmps17
  go_wp2_with fail
  refine bodyPost_ret (v := .tuple #[.agg #[.int .i64 0, .int .i64 0, .int .i64 0, .int .i64 0, .bool false, .slice none 0 0], .iface 56 (.int .i64 4)]) (by simp [results, Tryd.results17, go_sem]) rfl ?_
  exact ⟨rfl, (Below.refl _ _).alloc (Nat.le_refl _) _⟩
end Go.Proofs.YtdmajaofjfgccabDoor.Pack
