/-
  Rows of numbers that came in, opened. Of data alone; no walk.
-/
import Derived.Test.YtijfocggdjjnjaiGreatDoorGapsI
import Derived.Lib.SmallJoins
namespace Go.Proofs.YtijfocggdjjnjaiGreatDoor.Open
open Go.ChangeShapes Go.WideShapes Go.ChangeAt Go.RowKit Go.Proofs.YtijfocggdjjnjaiGreatDoor.Mem Go.Proofs.YtijfocggdjjnjaiGreatDoor.Gaps
set_option linter.unusedVariables false

theorem cellsI : Tryz.prog.cellsOf 3 = 1 := by kernel_rfl
set_option maxRecDepth 100000 in
theorem open_nums {H : Type} {enc : TypeId × Value → H} {W : World} {b0 : Nat} {v : Value} {d : DataW H} {p : List MemPlace} (hv : Value.okWide Tryz.prog W .any b0 22 v) (h : DataW.Trod enc Tryz.prog W 0 (fun _ => true) true 22 v d p) :
    ∃ b len cap l, v = .slice b len cap ∧ IArg W b len l ∧ (b = none → len = 0 ∧ cap = 0) := by
  obtain ⟨a, l, c, rfl⟩ := okWide_slice Tryz.underlying22 hv
  obtain ⟨fuel, hf⟩ := h
  rcases open_ints Tryz.underlying22 Tryz.underlying3 cellsI hf with ⟨hcs, _⟩ | ⟨x, len, cap, zs, hcs, _, hl, hm, hz, _, hcell, hwz⟩
  · simp only [Value.cells, List.cons.injEq, and_true] at hcs
    exact ⟨none, 0, 0, [], hcs, IArg.nil _ _, fun _ => ⟨rfl, rfl⟩⟩
  · simp only [Value.cells, List.cons.injEq, and_true] at hcs
    have hzl : zs.length = cap := by simpa using hz
    refine ⟨some x, len, cap, zs.take len, hcs, ⟨fun j hj => ?_, by rw [List.length_take]; omega, by unfold maxLen at hm; omega⟩, fun e => by cases e⟩
    rw [List.length_take] at hj
    obtain ⟨b, o, rfl, hc⟩ := ints_at hcell (by omega)
    have := hc j (by omega)
    refine ⟨b, o, rfl, ?_⟩
    rw [this]
    simp only [List.getD_eq_getElem?_getD]
    rw [List.getElem?_take, if_pos (by omega), List.getElem?_eq_getElem (by omega)]
end Go.Proofs.YtijfocggdjjnjaiGreatDoor.Open

