/-
  What the function Read of package pack returns, and what it makes. It changes nothing that was there.
-/
import Derived.Test.YtbadpjgiogghdaaGreatDoorPackB
import Derived.Deep.RegionHeld3
namespace Go.Proofs.YtbadpjgiogghdaaGreatDoor.Pack
open Go.ChangeShapes Go.WideShapes Go.ChangeAt Go.RowKit Go.Proofs.YtbadpjgiogghdaaGreatDoor.PM Go.Proofs.YtbadpjgiogghdaaGreatDoor.Mem
set_option linter.unusedVariables false

/-- bytes that are there lie somewhere -/
theorem arg_at {w : World} {a : Option Addr} {n : Nat} {L : List Nat} (h : Arg w a n L) (hn : 0 < n) : ∃ b o, a = some ⟨b, o, none⟩ := by
  obtain ⟨b, o, e, _⟩ := h.1.2 0 (by have := h.2.1; omega)
  exact ⟨b, o, e⟩
theorem arg_cell {w : World} {b o n : Nat} {L : List Nat} (h : Arg w (some ⟨b, o, none⟩) n L) (j : Nat) (hj : j < n) : w.cell? ⟨b, o + j, none⟩ = some (.int .u8 (L.getD j 0 : Nat)) := by
  obtain ⟨b', o', e, hc⟩ := h.1.2 j (by have := h.2.1; omega)
  simp only [Option.some.injEq, Addr.mk.injEq, and_true] at e
  obtain ⟨rfl, rfl⟩ := e
  exact hc

theorem cell_alloc {w : World} {p : Addr} {v : Value} (h : w.cell? p = some v) (o : Obj) : (w.alloc o).cell? p = some v := (((Below.refl _ _).alloc (Nat.le_refl _) o).cell (World.block_lt_of_cell? w p h)).trans h

end Go.Proofs.YtbadpjgiogghdaaGreatDoor.Pack

