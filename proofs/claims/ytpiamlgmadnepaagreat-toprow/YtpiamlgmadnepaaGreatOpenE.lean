/-
  Rows of edges and of numbers that came in, opened. Of data alone; no walk.
-/
import Derived.Test.YtpiamlgmadnepaaGreatTreeA
import Derived.Deep.Slices
import Derived.Lib.SmallJoins
namespace Go.Proofs.YtpiamlgmadnepaaGreat.Open
open Go.ChangeShapes Go.WideShapes Go.ChangeAt Go.RowKit Go.Proofs.YtpiamlgmadnepaaGreat.Mem Go.Proofs.YtpiamlgmadnepaaGreat.TM Go.Proofs.YtpiamlgmadnepaaGreat.Tree
set_option linter.unusedVariables false

theorem cells3 : Tryz.prog.cellsOf 3 = 1 := by kernel_rfl
theorem cellsMB : Tryz.prog.cellsOf 87 = 3 := by kernel_rfl
theorem three_list {α : Type} {l : List α} (h : l.length = 3) : ∃ z0 z1 z2, l = [z0, z1, z2] := by
  match l, h with
  | [z0, z1, z2], _ => exact ⟨z0, z1, z2, rfl⟩
set_option maxRecDepth 100000 in
theorem open_eds {H : Type} {enc : TypeId × Value → H} {W : World} {b0 : Nat} {v : Value} {d : DataW H} {p : List MemPlace} (hv : Value.okWide Tryz.prog W .any b0 28 v) (h : DataW.Trod enc Tryz.prog W 0 (fun _ => true) true 28 v d p) :
    ∃ b len cap l, v = .slice b len cap ∧ EArg W b len l ∧ len ≤ cap := by
  obtain ⟨a, l, c, rfl⟩ := okWide_slice Tryz.underlying28 hv
  obtain ⟨fuel, hf⟩ := h
  rcases Go.Deep.open_slice Tryz.underlying28 hf with ⟨hcs, _⟩ | ⟨x, len, cap, m, n, D, Pl, hcs, _, hl, hm, hmm, _, hx⟩
  · simp only [Value.cells, List.cons.injEq, and_true] at hcs
    exact ⟨none, 0, 0, [], hcs, EArg.nil _ _, Nat.le_refl _⟩
  · simp only [Value.cells, List.cons.injEq, and_true] at hcs
    have hmc : m = cap := by simpa using hmm
    have each : ∀ i, i < m → ∃ q : Ed, W.cell? (x.add (i * 3)) = some (.int .i64 q.a) ∧ W.cell? (x.add (i * 3 + 1)) = some (.int .i64 q.b) ∧ W.cell? (x.add (i * 3 + 2)) = some (.int .i64 q.c) := by
      intro i hi
      obtain ⟨cs', h1, h2⟩ := hx i hi
      rw [cellsMB] at h1
      obtain ⟨_, hlen, hcell⟩ := World.cells?_some h1
      obtain ⟨xs, k, _, _, _, hxl, hfi⟩ := DataW.trod_struct Tryz.underlying87 h2
      obtain ⟨z0, z1, z2, rfl⟩ := three_list hlen
      obtain ⟨y0, y1, y2, rfl⟩ := three_list hxl
      have e0 := hfi 0 _ rfl
      have e1 := hfi 1 _ rfl
      have e2 := hfi 2 _ rfl
      obtain ⟨s, k0, _, _⟩ := DataW.trod_int Tryz.underlying3 e0
      obtain ⟨t, k1, _, _⟩ := DataW.trod_int Tryz.underlying3 e1
      obtain ⟨u, k2, _, _⟩ := DataW.trod_int Tryz.underlying3 e2
      simp [cells3] at k0 k1 k2
      subst k0 k1 k2
      refine ⟨⟨s, t, u⟩, ?_, ?_, ?_⟩
      · have := hcell 0 (by omega); rw [Go.Deep.add_add] at this; simpa using this
      · have := hcell 1 (by omega); rw [Go.Deep.add_add] at this; simpa using this
      · have := hcell 2 (by omega); rw [Go.Deep.add_add] at this; simpa using this
    obtain ⟨F, hF⟩ := @Go.Deep.choose_lt Ed ⟨zz⟩ _ _ each
    refine ⟨some x, len, cap, (List.range len).map F, hcs, ⟨fun j hj => ?_, by simp, by unfold maxLen at hm; omega⟩, hl⟩
    have hj' : j < len := by simpa using hj
    obtain ⟨g0, g1, g2⟩ := hF j (by omega)
    obtain ⟨b, off, spot⟩ := x
    have hspot : spot = none := by have g := (hF 0 (by omega)).1; simpa [Addr.add] using World.cell?_spot g
    subst hspot
    have e : ((List.range len).map F).getD j zz = F j := by simp [List.getD_eq_getElem?_getD, hj']
    rw [add_plain] at g0 g1 g2
    rw [e]
    exact ⟨b, off, rfl, g0, by rw [Nat.add_assoc]; exact g1, by rw [Nat.add_assoc]; exact g2⟩
set_option maxRecDepth 100000 in
theorem open_nums {H : Type} {enc : TypeId × Value → H} {W : World} {b0 : Nat} {v : Value} {d : DataW H} {p : List MemPlace} (hv : Value.okWide Tryz.prog W .any b0 35 v) (h : DataW.Trod enc Tryz.prog W 0 (fun _ => true) true 35 v d p) :
    ∃ b len cap l, v = .slice b len cap ∧ IArg W b len l := by
  obtain ⟨a, l, c, rfl⟩ := okWide_slice Tryz.underlying35 hv
  obtain ⟨fuel, hf⟩ := h
  rcases open_ints Tryz.underlying35 Tryz.underlying3 cells3 hf with ⟨hcs, _⟩ | ⟨x, len, cap, zs, hcs, _, hl, hm, hz, _, hcell, hwz⟩
  · simp only [Value.cells, List.cons.injEq, and_true] at hcs
    exact ⟨none, 0, 0, [], hcs, IArg.nil _ _⟩
  · simp only [Value.cells, List.cons.injEq, and_true] at hcs
    have hzl : zs.length = cap := by simpa using hz
    refine ⟨some x, len, cap, zs.take len, hcs, fun j hj => ?_, by rw [List.length_take]; omega, by unfold maxLen at hm; omega⟩
    rw [List.length_take] at hj
    obtain ⟨b, o, rfl, hc⟩ := ints_at hcell (by omega)
    have := hc j (by omega)
    refine ⟨b, o, rfl, ?_⟩
    rw [this]
    unfold dg
    simp only [List.getD_eq_getElem?_getD]
    rw [List.getElem?_take, if_pos (by omega), List.getElem?_eq_getElem (by omega)]
    rfl
end Go.Proofs.YtpiamlgmadnepaaGreat.Open

