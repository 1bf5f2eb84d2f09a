/-
  Rows of rows of voices that came in, opened. Of data alone; no walk.
-/
import Derived.Test.YtjhfjkacfnccdahDoorVoiceI
import Derived.Deep.Slices
import Derived.Lib.SmallJoins
namespace Go.Proofs.YtjhfjkacfnccdahDoor.Open
open Go.ChangeShapes Go.WideShapes Go.ChangeAt Go.RowKit Go.Proofs.YtjhfjkacfnccdahDoor.Mem Go.Proofs.YtjhfjkacfnccdahDoor.VO Go.Proofs.YtjhfjkacfnccdahDoor.Voice
set_option linter.unusedVariables false

theorem cells3 : Tryd.prog.cellsOf 3 = 1 := by kernel_rfl
theorem cellsVO : Tryd.prog.cellsOf 38 = 2 := by kernel_rfl
theorem cellsVS : Tryd.prog.cellsOf 30 = 1 := by kernel_rfl
theorem two_list {α : Type} {l : List α} (h : l.length = 2) : ∃ z0 z1, l = [z0, z1] := by
  match l, h with
  | [z0, z1], _ => exact ⟨z0, z1, rfl⟩
theorem one_list {α : Type} {l : List α} (h : l.length = 1) : ∃ z0, l = [z0] := by
  match l, h with
  | [z0], _ => exact ⟨z0, rfl⟩
set_option maxRecDepth 100000 in
/-- a row of voices in a cell -/
theorem open_vs {H : Type} {enc : TypeId × Value → H} {W : World} {fuel : Nat} {c : Value} {x : DataW H × List MemPlace} (hf : DataW.trod enc Tryd.prog W 0 (fun _ => true) true fuel 30 [c] = some x) :
    ∃ b len cap l, c = .slice b len cap ∧ VArg W b len l := by
  rcases Go.Deep.open_slice Tryd.underlying30 hf with ⟨hcs, _⟩ | ⟨x, len, cap, m, n, D, Pl, hcs, _, hl, hm, hmm, _, hx⟩
  · simp only [List.cons.injEq, and_true] at hcs
    exact ⟨none, 0, 0, [], hcs, VArg.nil _ _⟩
  · simp only [List.cons.injEq, and_true] at hcs
    have hmc : m = cap := by simpa using hmm
    have each : ∀ i, i < m → ∃ q : Int × Int, W.cell? (x.add (i * 2)) = some (.int .i64 q.1) ∧ W.cell? (x.add (i * 2 + 1)) = some (.int .i64 q.2) := by
      intro i hi
      obtain ⟨cs', h1, h2⟩ := hx i hi
      rw [cellsVO] at h1
      obtain ⟨_, hlen, hcell⟩ := World.cells?_some h1
      obtain ⟨xs, k, _, _, _, hxl, hfi⟩ := DataW.trod_struct Tryd.underlying38 h2
      obtain ⟨z0, z1, rfl⟩ := two_list hlen
      obtain ⟨y0, y1, rfl⟩ := two_list hxl
      have e0 := hfi 0 _ rfl
      have e1 := hfi 1 _ rfl
      obtain ⟨s, k0, _, _⟩ := DataW.trod_int Tryd.underlying3 e0
      obtain ⟨t, k1, _, _⟩ := DataW.trod_int Tryd.underlying3 e1
      simp [cells3] at k0 k1
      subst k0 k1
      refine ⟨(s, t), ?_, ?_⟩
      · have := hcell 0 (by omega); rw [Go.Deep.add_add] at this; simpa using this
      · have := hcell 1 (by omega); rw [Go.Deep.add_add] at this; simpa using this
    obtain ⟨F, hF⟩ := @Go.Deep.choose_lt (Int × Int) ⟨(0, 0)⟩ _ _ each
    refine ⟨some x, len, cap, (List.range len).map F, hcs, ⟨fun j hj => ?_, by simp, by unfold maxLen at hm; omega⟩⟩
    have hj' : j < len := by simpa using hj
    obtain ⟨g0, g1⟩ := hF j (by omega)
    obtain ⟨b, off, spot⟩ := x
    have hspot : spot = none := by have g := (hF 0 (by omega)).1; simpa [Addr.add] using World.cell?_spot g
    subst hspot
    have e : ((List.range len).map F).getD j (0, 0) = F j := by simp [List.getD_eq_getElem?_getD, hj']
    rw [add_plain] at g0 g1
    rw [e]
    exact ⟨b, off, rfl, g0, by rw [Nat.add_assoc]; exact g1⟩
/-- rows of voices that lie from an address on -/
def VRows (w : World) (a : Option Addr) (len : Nat) (Z : Nat → Vs) : Prop :=
  len ≤ 9223372036854775807 ∧ ∀ j, j < len → ∃ b o a' l' c', a = some ⟨b, o, none⟩ ∧ b < w.heap.size ∧ w.cell? ⟨b, o + j, none⟩ = some (.slice a' l' c') ∧ VArg w a' l' (Z j)
theorem VRows.below {w w' : World} {a : Option Addr} {n : Nat} {Z : Nat → Vs} (h : VRows w a n Z) (hb : Below w.heap.size w w') : VRows w' a n Z := by
  refine ⟨h.1, fun j hj => ?_⟩
  obtain ⟨b, o, a', l', c', e, hl, hc, hv⟩ := h.2 j hj
  exact ⟨b, o, a', l', c', e, Nat.lt_of_lt_of_le hl hb.size, (hb.cell (p := ⟨b, o + j, none⟩) hl).trans hc, hv.below hb⟩
set_option maxRecDepth 100000 in
theorem open_vrows {H : Type} {enc : TypeId × Value → H} {W : World} {b0 : Nat} {v : Value} {d : DataW H} {p : List MemPlace} (hv : Value.okWide Tryd.prog W .any b0 22 v) (h : DataW.Trod enc Tryd.prog W 0 (fun _ => true) true 22 v d p) :
    ∃ b len cap Z, v = .slice b len cap ∧ VRows W b len Z := by
  obtain ⟨a, l, c, rfl⟩ := okWide_slice Tryd.underlying22 hv
  obtain ⟨fuel, hf⟩ := h
  rcases Go.Deep.open_slice Tryd.underlying22 hf with ⟨hcs, _⟩ | ⟨x, len, cap, m, n, D, Pl, hcs, _, hl, hm, hmm, _, hx⟩
  · simp only [Value.cells, List.cons.injEq, and_true] at hcs
    exact ⟨none, 0, 0, fun _ => [], hcs, by omega, fun j hj => absurd hj (by omega)⟩
  · simp only [Value.cells, List.cons.injEq, and_true] at hcs
    have hmc : m = cap := by simpa using hmm
    have each : ∀ i, i < m → ∃ q : (Option Addr × Nat × Nat) × Vs, W.cell? (x.add i) = some (.slice q.1.1 q.1.2.1 q.1.2.2) ∧ VArg W q.1.1 q.1.2.1 q.2 := by
      intro i hi
      obtain ⟨cs', h1, h2⟩ := hx i hi
      rw [cellsVS] at h1
      obtain ⟨_, hlen, hcell⟩ := World.cells?_some h1
      obtain ⟨z0, rfl⟩ := one_list hlen
      obtain ⟨a', l', c', L, rfl, hA⟩ := open_vs h2
      refine ⟨((a', l', c'), L), ?_, hA⟩
      have := hcell 0 (by omega); rw [Go.Deep.add_add] at this; simpa using this
    obtain ⟨F, hF⟩ := @Go.Deep.choose_lt ((Option Addr × Nat × Nat) × Vs) ⟨((none, 0, 0), [])⟩ _ _ each
    refine ⟨some x, len, cap, fun j => (F j).2, hcs, by unfold maxLen at hm; omega, fun j hj => ?_⟩
    obtain ⟨g0, g1⟩ := hF j (by omega)
    obtain ⟨b, off, spot⟩ := x
    have hspot : spot = none := by have g := (hF 0 (by omega)).1; simpa [Addr.add] using World.cell?_spot g
    subst hspot
    rw [add_plain] at g0
    exact ⟨b, off, _, _, _, rfl, World.block_lt_of_cell? W _ g0, g0, g1⟩
end Go.Proofs.YtjhfjkacfnccdahDoor.Open
