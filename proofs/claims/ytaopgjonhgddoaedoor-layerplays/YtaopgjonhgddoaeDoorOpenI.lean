/-
  Rows of numbers, and rows of items, that came in, opened. Of data alone; no walk.
-/
import Derived.Test.YtaopgjonhgddoaeDoorOpen
import Derived.Below
import Derived.ChangeOld
import Derived.Deep.Slices
import Derived.Lib.SmallJoins
import Derived.OpenShut
import Derived.ProofKit
import Derived.WalkKit
namespace Go.Proofs.YtaopgjonhgddoaeDoor.Open
open Go.ChangeShapes Go.WideShapes Go.ChangeAt Go.RowKit Go.Proofs.YtaopgjonhgddoaeDoor.Mem
set_option linter.unusedVariables false

/-- numbers that lie from an address on -/
def Nums (w : World) (a : Option Addr) (len : Nat) (Z : Nat → Int) : Prop :=
  len ≤ 9223372036854775807 ∧ (∀ j, j < len → ∃ b o, a = some ⟨b, o, none⟩ ∧ b < w.heap.size ∧ w.cell? ⟨b, o + j, none⟩ = some (.int .i64 (Z j))) ∧ ∀ j, j < len → (Lit.int .i64 (Z j)).wf = true
set_option maxRecDepth 100000 in
theorem open_nums {H : Type} {enc : TypeId × Value → H} {W : World} {b0 : Nat} {v : Value} {d : DataW H} {p : List MemPlace} (hv : Value.okWide Tryd.prog W .any b0 35 v) (h : DataW.Trod enc Tryd.prog W 0 (fun _ => true) true 35 v d p) :
    ∃ b len cap Z, v = .slice b len cap ∧ Nums W b len Z := by
  obtain ⟨a, l, c, rfl⟩ := okWide_slice Tryd.underlying35 hv
  obtain ⟨fuel, hf⟩ := h
  rcases open_ints Tryd.underlying35 Tryd.underlying3 cells3 hf with ⟨hcs, _⟩ | ⟨x, len, cap, zs, hcs, _, hl, hm, hz, _, hcell, hwz⟩
  · simp only [Value.cells, List.cons.injEq, and_true] at hcs
    exact ⟨none, 0, 0, fun _ => 0, hcs, by omega, fun j hj => absurd hj (by omega), fun j hj => absurd hj (by omega)⟩
  · simp only [Value.cells, List.cons.injEq, and_true] at hcs
    have hzl : zs.length = cap := by simpa using hz
    refine ⟨some x, len, cap, fun j => zs.getD j 0, hcs, by unfold maxLen at hm; omega, fun j hj => ?_, fun j hj => ?_⟩
    · obtain ⟨b, o, rfl, hc⟩ := ints_at hcell (by omega)
      have := hc j (by omega)
      exact ⟨b, o, rfl, World.block_lt_of_cell? W ⟨b, o + j, none⟩ this, this⟩
    · refine hwz _ ?_
      show zs.getD j 0 ∈ zs
      rw [List.getD_eq_getElem?_getD, List.getElem?_eq_getElem (by omega)]
      exact List.getElem_mem _
/-- an item: its number, whether it is gone, its packet, where its Body lies -/
structure It where
  n : Int
  g : Bool
  s : Int
  t : Int
  l : Int
  q : Int
  st : Bool
  a : Option Addr
  m : Nat
  c : Nat
/-- an item lies from an address on -/
def ItAt (w : World) (b o : Nat) (i : It) : Prop :=
  w.cell? ⟨b, o, none⟩ = some (.int .i64 i.n) ∧ w.cell? ⟨b, o + 1, none⟩ = some (.bool i.g) ∧ w.cell? ⟨b, o + 2, none⟩ = some (.int .i64 i.s) ∧ w.cell? ⟨b, o + 3, none⟩ = some (.int .i64 i.t) ∧ w.cell? ⟨b, o + 4, none⟩ = some (.int .i64 i.l) ∧ w.cell? ⟨b, o + 5, none⟩ = some (.int .i64 i.q) ∧ w.cell? ⟨b, o + 6, none⟩ = some (.bool i.st) ∧ w.cell? ⟨b, o + 7, none⟩ = some (.slice i.a i.m i.c)
def Items (w : World) (a : Option Addr) (len : Nat) (F : Nat → It) : Prop :=
  len ≤ 9223372036854775807 ∧ ∀ j, j < len → ∃ b o, a = some ⟨b, o, none⟩ ∧ b < w.heap.size ∧ ItAt w b (o + j * 8) (F j)
/-- an empty item -/
def noIt : It := ⟨0, false, 0, 0, 0, 0, false, none, 0, 0⟩
theorem cellsIT : Tryd.prog.cellsOf 62 = 8 := by kernel_rfl
theorem eight_list {α : Type} {l : List α} (h : l.length = 8) : ∃ z0 z1 z2 z3 z4 z5 z6 z7, l = [z0, z1, z2, z3, z4, z5, z6, z7] := by
  match l, h with
  | [z0, z1, z2, z3, z4, z5, z6, z7], _ => exact ⟨z0, z1, z2, z3, z4, z5, z6, z7, rfl⟩
theorem three_list {α : Type} {l : List α} (h : l.length = 3) : ∃ z0 z1 z2, l = [z0, z1, z2] := by
  match l, h with
  | [z0, z1, z2], _ => exact ⟨z0, z1, z2, rfl⟩

set_option maxRecDepth 100000 in
theorem open_items {H : Type} {enc : TypeId × Value → H} {W : World} {b0 : Nat} {v : Value} {d : DataW H} {p : List MemPlace} (hv : Value.okWide Tryd.prog W .any b0 45 v) (h : DataW.Trod enc Tryd.prog W 0 (fun _ => true) true 45 v d p) :
    ∃ b len cap F, v = .slice b len cap ∧ Items W b len F := by
  obtain ⟨a, l, c, rfl⟩ := okWide_slice Tryd.underlying45 hv
  obtain ⟨fuel, hf⟩ := h
  rcases Go.Deep.open_slice Tryd.underlying45 hf with ⟨hcs, _⟩ | ⟨x, len, cap, m, n, D, Pl, hcs, _, hl, hm, hmm, _, hx⟩
  · simp only [Value.cells, List.cons.injEq, and_true] at hcs
    exact ⟨none, 0, 0, fun _ => noIt, hcs, by omega, fun j hj => absurd hj (by omega)⟩
  · simp only [Value.cells, List.cons.injEq, and_true] at hcs
    have hmc : m = cap := by simpa using hmm
    have each : ∀ i, i < m → ∃ q : It, W.cell? (x.add (i * 8)) = some (.int .i64 q.n) ∧ W.cell? (x.add (i * 8 + 1)) = some (.bool q.g) ∧ W.cell? (x.add (i * 8 + 2)) = some (.int .i64 q.s) ∧ W.cell? (x.add (i * 8 + 3)) = some (.int .i64 q.t) ∧ W.cell? (x.add (i * 8 + 4)) = some (.int .i64 q.l) ∧ W.cell? (x.add (i * 8 + 5)) = some (.int .i64 q.q) ∧ W.cell? (x.add (i * 8 + 6)) = some (.bool q.st) ∧ W.cell? (x.add (i * 8 + 7)) = some (.slice q.a q.m q.c) := by
      intro i hi
      obtain ⟨cs', h1, h2⟩ := hx i hi
      rw [cellsIT] at h1
      obtain ⟨_, hlen, hcell⟩ := World.cells?_some h1
      obtain ⟨xs, k, _, _, _, hxl, hfi⟩ := DataW.trod_struct Tryd.underlying62 h2
      obtain ⟨z0, z1, z2, z3, z4, z5, z6, z7, rfl⟩ := eight_list hlen
      obtain ⟨y0, y1, y2, rfl⟩ := three_list hxl
      have e0 := hfi 0 _ rfl
      have e1 := hfi 1 _ rfl
      have e2 : DataW.trod enc Tryd.prog W 0 (fun _ => true) true k 38 (([z0, z1, z2, z3, z4, z5, z6, z7].drop 2).take (Tryd.prog.cellsOf 38)) = some y2 := hfi 2 _ rfl
      rw [cellsPK] at e2
      have e9 : DataW.trod enc Tryd.prog W 0 (fun _ => true) true k 38 [z2, z3, z4, z5, z6, z7] = some y2 := e2
      obtain ⟨n, k0, _, _⟩ := DataW.trod_int Tryd.underlying3 e0
      obtain ⟨g, k1, _⟩ := DataW.trod_bool Tryd.underlying4 e1
      obtain ⟨us, k', _, _, _, hul, hgi⟩ := DataW.trod_struct Tryd.underlying38 e9
      obtain ⟨v0, v1, v2, v3, v4, v5, rfl⟩ := six_list hul
      have e3 := hgi 0 _ rfl
      have e4 := hgi 1 _ rfl
      have e5 := hgi 2 _ rfl
      have e6 := hgi 3 _ rfl
      have e7 := hgi 4 _ rfl
      have e8 := hgi 5 _ rfl
      obtain ⟨s, k2, _, _⟩ := DataW.trod_int Tryd.underlying3 e3
      obtain ⟨t, k3, _, _⟩ := DataW.trod_int Tryd.underlying3 e4
      obtain ⟨l, k4, _, _⟩ := DataW.trod_int Tryd.underlying3 e5
      obtain ⟨q, k5, _, _⟩ := DataW.trod_int Tryd.underlying3 e6
      obtain ⟨st, k6, _⟩ := DataW.trod_bool Tryd.underlying4 e7
      obtain ⟨a5, m5, cap5, zs, k7, hr⟩ := open_row (a := z7) e8
      simp [cells3, cells4] at k0 k1 k2 k3 k4 k5 k6
      subst k0 k1 k2 k3 k4 k5 k6 k7
      refine ⟨⟨n, g, s, t, l, q, st, a5, m5, cap5⟩, ?_, ?_, ?_, ?_, ?_, ?_, ?_, ?_⟩
      · have := hcell 0 (by omega); rw [Go.Deep.add_add] at this; simpa using this
      · have := hcell 1 (by omega); rw [Go.Deep.add_add] at this; simpa using this
      · have := hcell 2 (by omega); rw [Go.Deep.add_add] at this; simpa using this
      · have := hcell 3 (by omega); rw [Go.Deep.add_add] at this; simpa using this
      · have := hcell 4 (by omega); rw [Go.Deep.add_add] at this; simpa using this
      · have := hcell 5 (by omega); rw [Go.Deep.add_add] at this; simpa using this
      · have := hcell 6 (by omega); rw [Go.Deep.add_add] at this; simpa using this
      · have := hcell 7 (by omega); rw [Go.Deep.add_add] at this; simpa using this
    obtain ⟨F, hF⟩ := @Go.Deep.choose_lt It ⟨noIt⟩ _ _ each
    refine ⟨some x, len, cap, F, hcs, by unfold maxLen at hm; omega, fun j hj => ?_⟩
    obtain ⟨g0, g1, g2, g3, g4, g5, g6, g7⟩ := hF j (by omega)
    obtain ⟨b, off, spot⟩ := x
    have hspot : spot = none := by have g := (hF 0 (by omega)).1; simpa [Addr.add] using World.cell?_spot g
    subst hspot
    rw [add_plain] at g0 g1 g2 g3 g4 g5 g6 g7
    exact ⟨b, off, rfl, World.block_lt_of_cell? W _ g0, g0, by rw [Nat.add_assoc]; exact g1, by rw [Nat.add_assoc]; exact g2, by rw [Nat.add_assoc]; exact g3, by rw [Nat.add_assoc]; exact g4, by rw [Nat.add_assoc]; exact g5, by rw [Nat.add_assoc]; exact g6, by rw [Nat.add_assoc]; exact g7⟩
end Go.Proofs.YtaopgjonhgddoaeDoor.Open
