/-
  Rows of two numbers each that came in, opened. Of data alone; no walk.
-/
import Derived.Test.YtdoljkiklnaioagDoorOpenN
import Derived.Test.YtdoljkiklnaioagDoorRateS
import Derived.Deep.Slices
namespace Go.Proofs.YtdoljkiklnaioagDoor.Open
open Go.ChangeShapes Go.WideShapes Go.ChangeAt Go.RowKit Go.Proofs.YtdoljkiklnaioagDoor.Mem Go.Proofs.YtdoljkiklnaioagDoor.RT Go.Proofs.YtdoljkiklnaioagDoor.Rate
set_option linter.unusedVariables false

theorem cellsAR : Tryd.prog.cellsOf 63 = 2 := by kernel_rfl
theorem two_list {α : Type} {l : List α} (h : l.length = 2) : ∃ z0 z1, l = [z0, z1] := by
  match l, h with
  | [z0, z1], _ => exact ⟨z0, z1, rfl⟩
set_option maxRecDepth 100000 in
theorem open_twos {H : Type} {enc : TypeId × Value → H} {W : World} {b0 : Nat} {v : Value} {d : DataW H} {p : List MemPlace} (hv : Value.okWide Tryd.prog W .any b0 53 v) (h : DataW.Trod enc Tryd.prog W 0 (fun _ => true) true 53 v d p) :
    ∃ b len cap l, v = .slice b len cap ∧ TArg W b len l := by
  obtain ⟨a, l, c, rfl⟩ := okWide_slice Tryd.underlying53 hv
  obtain ⟨fuel, hf⟩ := h
  rcases Go.Deep.open_slice Tryd.underlying53 hf with ⟨hcs, _⟩ | ⟨x, len, cap, m, n, D, Pl, hcs, _, hl, hm, hmm, _, hx⟩
  · simp only [Value.cells, List.cons.injEq, and_true] at hcs
    exact ⟨none, 0, 0, [], hcs, TArg.nil _ _⟩
  · simp only [Value.cells, List.cons.injEq, and_true] at hcs
    have hmc : m = cap := by simpa using hmm
    have each : ∀ i, i < m → ∃ q : Int × Int, W.cell? (x.add (i * 2)) = some (.int .i64 q.1) ∧ W.cell? (x.add (i * 2 + 1)) = some (.int .i64 q.2) := by
      intro i hi
      obtain ⟨cs', h1, h2⟩ := hx i hi
      rw [cellsAR] at h1
      obtain ⟨_, hlen, hcell⟩ := World.cells?_some h1
      obtain ⟨xs, k, _, _, _, hxl, hfi⟩ := DataW.trod_array Tryd.underlying63 h2
      obtain ⟨z0, z1, rfl⟩ := two_list hlen
      obtain ⟨y0, y1, rfl⟩ := two_list hxl
      have e0 := hfi 0 (by omega)
      have e1 := hfi 1 (by omega)
      rw [cells3] at e0 e1
      obtain ⟨s, k0, _, _⟩ := DataW.trod_int Tryd.underlying3 e0
      obtain ⟨t, k1, _, _⟩ := DataW.trod_int Tryd.underlying3 e1
      simp at k0 k1
      subst k0 k1
      refine ⟨⟨s, t⟩, ?_, ?_⟩
      · have := hcell 0 (by omega); rw [Go.Deep.add_add] at this; simpa using this
      · have := hcell 1 (by omega); rw [Go.Deep.add_add] at this; simpa using this
    obtain ⟨F, hF⟩ := Go.Deep.choose_lt each
    refine ⟨some x, len, cap, (List.range len).map F, hcs, fun j hj => ?_, by simp, by unfold maxLen at hm; omega⟩
    have hj' : j < len := by simpa using hj
    obtain ⟨g0, g1⟩ := hF j (by omega)
    obtain ⟨b, off, spot⟩ := x
    have hspot : spot = none := by have g := (hF 0 (by omega)).1; simpa [Addr.add] using World.cell?_spot g
    subst hspot
    have e : ((List.range len).map F).getD j (0, 0) = F j := by simp [List.getD_eq_getElem?_getD, hj']
    rw [add_plain] at g0 g1
    rw [e]
    exact ⟨b, off, rfl, g0, by rw [Nat.add_assoc]; exact g1⟩
end Go.Proofs.YtdoljkiklnaioagDoor.Open
