/-
  Rows of pairs that came in, opened; bytes with their bulk. Of data alone; no walk.
-/
import Derived.Test.YtjhfjkacfnccdabDoorOpen
import Derived.Deep.SlicePairs
namespace Go.Proofs.YtjhfjkacfnccdabDoor.Open
open Go.ChangeShapes Go.WideShapes Go.ChangeAt Go.RowKit Go.Proofs.YtjhfjkacfnccdabDoor.Mem Go.Proofs.YtjhfjkacfnccdabDoor.Back
set_option linter.unusedVariables false

theorem cellsPR : Tryd.prog.cellsOf 89 = 2 := by kernel_rfl
set_option maxRecDepth 100000 in
theorem open_prs {H : Type} {enc : TypeId × Value → H} {W : World} {b0 : Nat} {v : Value} {d : DataW H} {p : List MemPlace} (hv : Value.okWide Tryd.prog W .any b0 54 v) (h : DataW.Trod enc Tryd.prog W 0 (fun _ => true) true 54 v d p) :
    ∃ b len cap l, v = .slice b len cap ∧ PArg W b len l := by
  obtain ⟨a, l, c, rfl⟩ := okWide_slice Tryd.underlying54 hv
  obtain ⟨fuel, hf⟩ := h
  rcases Go.Deep.open_slice_pairs Tryd.underlying54 Tryd.underlying89 cellsPR rfl rfl cells3 cells3 hf with ⟨hcs, _⟩ | ⟨x, len, cap, m, n, V0, V1, D0, D1, P0, P1, hcs, _, hl, hm, hmm, _, hc⟩
  · simp only [Value.cells, List.cons.injEq, and_true] at hcs
    exact ⟨none, 0, 0, [], hcs, PArg.nil _ _⟩
  · simp only [Value.cells, List.cons.injEq, and_true] at hcs
    have hmc : m = cap := by simpa using hmm
    have each : ∀ i, i < m → ∃ z : Int × Int, W.cell? (x.add (i * 2)) = some (.int .i64 z.1) ∧ W.cell? (x.add (i * 2 + 1)) = some (.int .i64 z.2) := fun i hi => by
      obtain ⟨h1, h2, h3, h4⟩ := hc i hi
      obtain ⟨y0, e0, _, _⟩ := DataW.trod_int Tryd.underlying3 h3
      obtain ⟨y1, e1, _, _⟩ := DataW.trod_int Tryd.underlying3 h4
      simp only [List.cons.injEq, and_true] at e0 e1
      exact ⟨(y0, y1), by rw [h1, e0], by rw [h2, e1]⟩
    obtain ⟨q, hq⟩ := Go.Deep.choose_lt each
    refine ⟨some x, len, cap, (List.range len).map q, hcs, fun j hj => ?_, by simp, by unfold maxLen at hm; omega⟩
    have hj' : j < len := by simpa using hj
    obtain ⟨g0, g1⟩ := hq j (by omega)
    obtain ⟨b, off, spot⟩ := x
    have hspot : spot = none := by have g := (hq 0 (by omega)).1; simpa [Addr.add] using World.cell?_spot g
    subst hspot
    have e : ((List.range len).map q).getD j (0, 0) = q j := by simp [List.getD_eq_getElem?_getD, hj']
    rw [add_plain] at g0 g1
    rw [e]
    exact ⟨b, off, rfl, g0, by rw [Nat.add_assoc]; exact g1⟩
theorem bulk_lits {H : Type} (k : IntKind) (zs : List Int) : Rows.uptoBulkAll (lits (H := H) k zs) = zs.length := by
  induction zs with
  | nil => rfl
  | cons z zs ih =>
    have e : lits (H := H) k (z :: zs) = .lit (.int k z) :: lits k zs := rfl
    rw [e]
    simp only [Rows.uptoBulkAll, Rows.uptoBulk, ih, List.length_cons]
    omega
set_option maxRecDepth 100000 in
theorem open_bytes_up {H : Type} {enc : TypeId × Value → H} {W : World} {b0 : Nat} {v : Value} {d : DataW H} {p : List MemPlace} (hv : Value.okWide Tryd.prog W .any b0 22 v) (h : DataW.Trod enc Tryd.prog W 0 (fun _ => true) true 22 v d p) :
    ∃ b len cap zs, v = .slice b len cap ∧ IsRow W b len cap zs ∧ cap ≤ Rows.uptoBulk d := by
  obtain ⟨a, l, c, rfl⟩ := okWide_slice Tryd.underlying22 hv
  obtain ⟨fuel, hf⟩ := h
  rcases open_ints Tryd.underlying22 Tryd.underlying5 cells5 hf with ⟨hcs, _⟩ | ⟨x, len, cap, zs, hcs, _, hl, hm, hz, hx, hcell, hwz⟩
  · simp only [Value.cells, List.cons.injEq, and_true] at hcs
    exact ⟨none, 0, 0, [], hcs, .inl ⟨rfl, rfl, rfl, rfl⟩, Nat.zero_le _⟩
  · simp only [Value.cells, List.cons.injEq, and_true] at hcs
    have hzl : zs.length = cap := by simpa using hz
    have hd : d = _ := congrArg Prod.fst hx
    refine ⟨some x, len, cap, zs, hcs, .inr ⟨x, rfl, hl, hm, by simpa using hz, hcell, hwz⟩, ?_⟩
    rw [hd]
    simp only [Rows.uptoBulk, bulk_lits, List.length_take, List.length_drop]
    omega
end Go.Proofs.YtjhfjkacfnccdabDoor.Open
