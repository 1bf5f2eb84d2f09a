/-
  Rows of packets that came in, opened. Of data alone; no walk.
-/
import Derived.Test.YtjnkgbdpacdgpaaDoorOpen
import Derived.Test.YtjnkgbdpacdgpaaDoorAuditR
import Derived.Below
import Derived.ChangeOld
import Derived.Deep.Slices
import Derived.Lib.SmallJoins
import Derived.OpenShut
import Derived.ProofKit
import Derived.WalkKit
namespace Go.Proofs.YtjnkgbdpacdgpaaDoor.Open
open Go.ChangeShapes Go.WideShapes Go.ChangeAt Go.RowKit Go.Proofs.YtjnkgbdpacdgpaaDoor.Mem
set_option linter.unusedVariables false

/-- a packet: its numbers, where its Body lies, its Body -/
structure Pk where
  s : Int
  t : Int
  l : Int
  q : Int
  st : Bool
  a : Option Addr
  m : Nat
  c : Nat
  L : List Nat
/-- a packet lies from an address on -/
def PkAt (w : World) (b o : Nat) (p : Pk) : Prop :=
  w.cell? ⟨b, o, none⟩ = some (.int .i64 p.s) ∧ w.cell? ⟨b, o + 1, none⟩ = some (.int .i64 p.t) ∧ w.cell? ⟨b, o + 2, none⟩ = some (.int .i64 p.l) ∧ w.cell? ⟨b, o + 3, none⟩ = some (.int .i64 p.q) ∧ w.cell? ⟨b, o + 4, none⟩ = some (.bool p.st) ∧ w.cell? ⟨b, o + 5, none⟩ = some (.slice p.a p.m p.c)
/-- its Body is there -/
def PkOk (w : World) (p : Pk) : Prop := Arg w p.a p.m p.L ∧ (p.a = none → p.m = 0 ∧ p.c = 0)
def Pks (w : World) (a : Option Addr) (len : Nat) (F : Nat → Pk) : Prop :=
  len ≤ 9223372036854775807 ∧ ∀ j, j < len → ∃ b o, a = some ⟨b, o, none⟩ ∧ b < w.heap.size ∧ PkAt w b (o + j * 6) (F j) ∧ PkOk w (F j)
/-- an empty packet -/
def noPk : Pk := ⟨0, 0, 0, 0, false, none, 0, 0, []⟩

set_option maxRecDepth 100000 in
theorem open_pks0 {H : Type} {enc : TypeId × Value → H} {W : World} {b0 : Nat} {v : Value} {d : DataW H} {p : List MemPlace} (hv : Value.okWide Tryd.prog W .any b0 22 v) (h : DataW.Trod enc Tryd.prog W 0 (fun _ => true) true 22 v d p) :
    ∃ b len cap F, v = .slice b len cap ∧ Pks W b len F ∧ len ≤ cap ∧ (b = none → cap = 0) := by
  obtain ⟨a, l, c, rfl⟩ := okWide_slice Tryd.underlying22 hv
  obtain ⟨fuel, hf⟩ := h
  rcases Go.Deep.open_slice Tryd.underlying22 hf with ⟨hcs, _⟩ | ⟨x, len, cap, m, n, D, Pl, hcs, _, hl, hm, hmm, _, hx⟩
  · simp only [Value.cells, List.cons.injEq, and_true] at hcs
    exact ⟨none, 0, 0, fun _ => noPk, hcs, ⟨by omega, fun j hj => absurd hj (by omega)⟩, Nat.le_refl _, fun _ => rfl⟩
  · simp only [Value.cells, List.cons.injEq, and_true] at hcs
    have hmc : m = cap := by simpa using hmm
    have each : ∀ i, i < m → ∃ q : Pk, (W.cell? (x.add (i * 6)) = some (.int .i64 q.s) ∧ W.cell? (x.add (i * 6 + 1)) = some (.int .i64 q.t) ∧ W.cell? (x.add (i * 6 + 2)) = some (.int .i64 q.l) ∧ W.cell? (x.add (i * 6 + 3)) = some (.int .i64 q.q) ∧ W.cell? (x.add (i * 6 + 4)) = some (.bool q.st) ∧ W.cell? (x.add (i * 6 + 5)) = some (.slice q.a q.m q.c)) ∧ PkOk W q := by
      intro i hi
      obtain ⟨cs', h1, h2⟩ := hx i hi
      rw [cellsPK] at h1
      obtain ⟨_, hlen, hcell⟩ := World.cells?_some h1
      obtain ⟨xs, k, _, _, _, hxl, hfi⟩ := DataW.trod_struct Tryd.underlying27 h2
      obtain ⟨z0, z1, z2, z3, z4, z5, rfl⟩ := six_list hlen
      obtain ⟨y0, y1, y2, y3, y4, y5, rfl⟩ := six_list hxl
      have e0 := hfi 0 _ rfl
      have e1 := hfi 1 _ rfl
      have e2 := hfi 2 _ rfl
      have e3 := hfi 3 _ rfl
      have e4 := hfi 4 _ rfl
      have e5 := hfi 5 _ rfl
      obtain ⟨s, k0, _, _⟩ := DataW.trod_int Tryd.underlying3 e0
      obtain ⟨t, k1, _, _⟩ := DataW.trod_int Tryd.underlying3 e1
      obtain ⟨l, k2, _, _⟩ := DataW.trod_int Tryd.underlying3 e2
      obtain ⟨q, k3, _, _⟩ := DataW.trod_int Tryd.underlying3 e3
      obtain ⟨st, k4, _⟩ := DataW.trod_bool Tryd.underlying4 e4
      obtain ⟨a5, m5, cap5, zs, k5, hr⟩ := open_row (a := z5) e5
      simp [cells3, cells4] at k0 k1 k2 k3 k4
      subst k0 k1 k2 k3 k4 k5
      refine ⟨⟨s, t, l, q, st, a5, m5, cap5, (zs.take m5).map Int.toNat⟩, ⟨?_, ?_, ?_, ?_, ?_, ?_⟩, (bytes_of hr).1, none_of hr⟩
      · have := hcell 0 (by omega); rw [Go.Deep.add_add] at this; simpa using this
      · have := hcell 1 (by omega); rw [Go.Deep.add_add] at this; simpa using this
      · have := hcell 2 (by omega); rw [Go.Deep.add_add] at this; simpa using this
      · have := hcell 3 (by omega); rw [Go.Deep.add_add] at this; simpa using this
      · have := hcell 4 (by omega); rw [Go.Deep.add_add] at this; simpa using this
      · have := hcell 5 (by omega); rw [Go.Deep.add_add] at this; simpa using this
    obtain ⟨F, hF⟩ := @Go.Deep.choose_lt Pk ⟨noPk⟩ _ _ each
    refine ⟨some x, len, cap, F, hcs, ⟨by unfold maxLen at hm; omega, fun j hj => ?_⟩, by omega, fun h => by simp at h⟩
    obtain ⟨⟨g0, g1, g2, g3, g4, g5⟩, hok⟩ := hF j (by omega)
    obtain ⟨b, off, spot⟩ := x
    have hspot : spot = none := by have g := (hF 0 (by omega)).1.1; simpa [Addr.add] using World.cell?_spot g
    subst hspot
    rw [add_plain] at g0 g1 g2 g3 g4 g5
    exact ⟨b, off, rfl, World.block_lt_of_cell? W _ g0, ⟨g0, by rw [Nat.add_assoc]; exact g1, by rw [Nat.add_assoc]; exact g2, by rw [Nat.add_assoc]; exact g3, by rw [Nat.add_assoc]; exact g4, by rw [Nat.add_assoc]; exact g5⟩, hok⟩

open Go.Proofs.YtjnkgbdpacdgpaaDoor.Audit in
/-- a packet in package audit's words -/
def toP (p : Pk) : AU.Pk := ⟨p.s, p.t, p.l, p.q, p.st, p.a, p.m, p.c, p.L⟩
theorem getD_toP (F : Nat → Pk) (len j : Nat) (h : j < len) : ((List.range len).map fun j => toP (F j)).getD j AU.noPk = toP (F j) := by
  simp [List.getD_eq_getElem?_getD, List.getElem?_map, List.getElem?_range h]
theorem open_pks {H : Type} {enc : TypeId × Value → H} {W : World} {b0 : Nat} {v : Value} {d : DataW H} {p : List MemPlace} (hv : Value.okWide Tryd.prog W .any b0 22 v) (h : DataW.Trod enc Tryd.prog W 0 (fun _ => true) true 22 v d p) :
    ∃ b len cap X, v = .slice b len cap ∧ Audit.Came W b len cap X := by
  obtain ⟨b, len, cap, F, e, hp, hc, hn⟩ := open_pks0 hv h
  refine ⟨b, len, cap, (List.range len).map fun j => toP (F j), e, ⟨by simp, hp.1, fun j hj => ?_⟩, hc, hn, ?_⟩
  · obtain ⟨bb, o, e1, _, h1, h2⟩ := hp.2 j hj
    rw [getD_toP F len j hj]
    exact ⟨bb, o, e1, h1, h2.1⟩
  · intro q hq
    simp only [List.mem_map, List.mem_range] at hq
    obtain ⟨j, hj, rfl⟩ := hq
    obtain ⟨bb, o, e1, _, h1, h2⟩ := hp.2 j hj
    exact h2.2
open Go.Proofs.YtjnkgbdpacdgpaaDoor.Audit in
set_option maxRecDepth 100000 in
theorem open_nums {H : Type} {enc : TypeId × Value → H} {W : World} {b0 : Nat} {v : Value} {d : DataW H} {p : List MemPlace} (hv : Value.okWide Tryd.prog W .any b0 23 v) (h : DataW.Trod enc Tryd.prog W 0 (fun _ => true) true 23 v d p) :
    ∃ b len cap l, v = .slice b len cap ∧ IArg W b len l := by
  obtain ⟨a, l, c, rfl⟩ := okWide_slice Tryd.underlying23 hv
  obtain ⟨fuel, hf⟩ := h
  rcases open_ints Tryd.underlying23 Tryd.underlying3 cells3 hf with ⟨hcs, _⟩ | ⟨x, len, cap, zs, hcs, _, hl, hm, hz, _, hcell, hwz⟩
  · simp only [Value.cells, List.cons.injEq, and_true] at hcs
    exact ⟨none, 0, 0, [], hcs, IArg.nil _ _⟩
  · simp only [Value.cells, List.cons.injEq, and_true] at hcs
    have hzl : zs.length = cap := by simpa using hz
    refine ⟨some x, len, cap, zs.take len, hcs, fun j hj => ?_, by rw [List.length_take]; omega, by unfold maxLen at hm; omega⟩
    rw [List.length_take] at hj
    obtain ⟨b, o, rfl, hc⟩ := ints_at hcell (by omega)
    have := hc j (by omega)
    refine ⟨b, o, rfl, ?_⟩
    rw [this]
    simp only [List.getD_eq_getElem?_getD]
    rw [List.getElem?_take, if_pos (by omega), List.getElem?_eq_getElem (by omega)]
end Go.Proofs.YtjnkgbdpacdgpaaDoor.Open

