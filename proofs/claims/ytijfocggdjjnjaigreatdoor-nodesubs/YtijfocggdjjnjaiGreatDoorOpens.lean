/-
  Open, OpenP in one text.
-/
import Derived.Test.YtijfocggdjjnjaiGreatDoorMem
import Derived.Test.YtijfocggdjjnjaiGreatDoorRows
import Derived.WalkKit
import Derived.ProofKit
import Derived.OpenShut
import Derived.ChangeOld
import Derived.Below
import Derived.Lib.SmallJoins
import Derived.Deep.Slices

/-
  A packet that came in, opened: its four numbers, its bool, its slice of bytes. Of data alone; no walk.
-/
namespace Go.Proofs.YtijfocggdjjnjaiGreatDoor.Open
open Go.ChangeShapes Go.WideShapes Go.ChangeAt Go.RowKit Go.Proofs.YtijfocggdjjnjaiGreatDoor.Mem
set_option linter.unusedVariables false

/-- a slice of bytes that came in -/
def IsRow (w : World) (a : Option Addr) (len cap : Nat) (zs : List Int) : Prop :=
  (a = none ∧ len = 0 ∧ cap = 0 ∧ zs = []) ∨
  ∃ x, a = some x ∧ len ≤ cap ∧ cap ≤ maxLen ∧ zs.length = cap ∧ (∀ i, i < zs.length → w.cell? (x.add i) = some (.int .u8 (zs.getD i 0))) ∧ ∀ n ∈ zs, (Lit.int .u8 n).wf = true
theorem none_of {w : World} {a : Option Addr} {len cap : Nat} {zs : List Int} (h : IsRow w a len cap zs) : a = none → len = 0 ∧ cap = 0 := by
  rcases h with ⟨_, h0, h1, _⟩ | ⟨x, rfl, _⟩
  · exact fun _ => ⟨h0, h1⟩
  · intro e; simp at e
theorem bytes_of {w : World} {a : Option Addr} {len cap : Nat} {zs : List Int} (h : IsRow w a len cap zs) : Arg w a len ((zs.take len).map Int.toNat) ∧ len ≤ cap := by
  rcases h with ⟨_, rfl, rfl, rfl⟩ | ⟨x, rfl, h1, h2, h3, h4, h5⟩
  · exact ⟨⟨Bys.nil _ _, rfl, by omega⟩, Nat.le_refl _⟩
  · have hw : ∀ n ∈ zs, 0 ≤ n ∧ n < 256 := by
      intro n hn
      have := bounds_u8 (h5 n hn)
      omega
    refine ⟨⟨⟨?_, ?_⟩, by simp; omega, by unfold maxLen at h2; omega⟩, h1⟩
    · intro c hc
      obtain ⟨n, hn, rfl⟩ := List.mem_map.1 hc
      have := hw n (List.mem_of_mem_take hn)
      omega
    · intro j hj
      have hj' : j < len := by simp at hj; omega
      obtain ⟨b, o, rfl, hc⟩ := ints_at h4 (by omega)
      refine ⟨b, o, rfl, ?_⟩
      rw [hc j (by omega)]
      have hz := hw (zs.getD j 0) (by rw [List.getD_eq_getElem?_getD, List.getElem?_eq_getElem (by omega)]; exact List.getElem_mem _)
      have e : ((zs.take len).map Int.toNat).getD j 0 = (zs.getD j 0).toNat := by
        simp [List.getD_eq_getElem?_getD, List.getElem?_take_of_lt hj', show j < zs.length by omega]
      rw [e, Int.toNat_of_nonneg hz.1]

theorem cellsPK : Tryz.prog.cellsOf 31 = 6 := by kernel_rfl
theorem cells3 : Tryz.prog.cellsOf 3 = 1 := by kernel_rfl
theorem cells4 : Tryz.prog.cellsOf 4 = 1 := by kernel_rfl
theorem cells5 : Tryz.prog.cellsOf 5 = 1 := by kernel_rfl
theorem six {cs : Array Value} (h : cs.size = 6) : ∃ z0 z1 z2 z3 z4 z5, cs = #[z0, z1, z2, z3, z4, z5] := by
  obtain ⟨l⟩ := cs
  match l, h with
  | [z0, z1, z2, z3, z4, z5], _ => exact ⟨z0, z1, z2, z3, z4, z5, rfl⟩
theorem six_list {α : Type} {l : List α} (h : l.length = 6) : ∃ z0 z1 z2 z3 z4 z5, l = [z0, z1, z2, z3, z4, z5] := by
  match l, h with
  | [z0, z1, z2, z3, z4, z5], _ => exact ⟨z0, z1, z2, z3, z4, z5, rfl⟩
theorem open_row {H : Type} {enc : TypeId × Value → H} {W : World} {fuel : Nat} {a : Value} {x : DataW H × List MemPlace} (hf : DataW.trod enc Tryz.prog W 0 (fun _ => true) true fuel 29 [a] = some x) :
    ∃ b len cap zs, a = .slice b len cap ∧ IsRow W b len cap zs := by
  rcases open_ints Tryz.underlying29 Tryz.underlying5 cells5 hf with ⟨hcs, _⟩ | ⟨x, l, c, zs, hcs, _, hl, hm, hz, _, hcell, hwz⟩
  · simp only [List.cons.injEq, and_true] at hcs
    exact ⟨none, 0, 0, [], hcs, .inl ⟨rfl, rfl, rfl, rfl⟩⟩
  · simp only [List.cons.injEq, and_true] at hcs
    exact ⟨some x, l, c, zs, hcs, .inr ⟨x, rfl, hl, hm, by simpa using hz, hcell, hwz⟩⟩
set_option maxRecDepth 100000 in
theorem open_bytes {H : Type} {enc : TypeId × Value → H} {W : World} {b0 : Nat} {v : Value} {d : DataW H} {p : List MemPlace} (hv : Value.okWide Tryz.prog W .any b0 29 v) (h : DataW.Trod enc Tryz.prog W 0 (fun _ => true) true 29 v d p) :
    ∃ b len cap zs, v = .slice b len cap ∧ IsRow W b len cap zs := by
  obtain ⟨a, l, c, rfl⟩ := okWide_slice Tryz.underlying29 hv
  obtain ⟨fuel, hf⟩ := h
  exact open_row hf
set_option maxRecDepth 100000 in
theorem open_pk {H : Type} {enc : TypeId × Value → H} {W : World} {b0 : Nat} {v : Value} {d : DataW H} {p : List MemPlace} (hv : Value.okWide Tryz.prog W .any b0 31 v) (h : DataW.Trod enc Tryz.prog W 0 (fun _ => true) true 31 v d p) :
    ∃ (s t l q : Int) (st : Bool) (a : Option Addr) (n cap : Nat) (zs : List Int), v = .agg #[.int .i64 s, .int .i64 t, .int .i64 l, .int .i64 q, .bool st, .slice a n cap] ∧ IsRow W a n cap zs := by
  obtain ⟨cs, rfl, hsz⟩ := okWide_struct Tryz.underlying31 hv
  rw [cellsPK] at hsz
  obtain ⟨z0, z1, z2, z3, z4, z5, rfl⟩ := six hsz
  obtain ⟨fuel, hf⟩ := h
  obtain ⟨xs, n, _, _, _, hlen, hfi⟩ := DataW.trod_struct Tryz.underlying31 hf
  obtain ⟨y0, y1, y2, y3, y4, y5, rfl⟩ := six_list hlen
  have e0 := hfi 0 _ rfl
  have e1 := hfi 1 _ rfl
  have e2 := hfi 2 _ rfl
  have e3 := hfi 3 _ rfl
  have e4 := hfi 4 _ rfl
  have e5 := hfi 5 _ rfl
  simp only [Value.cells] at e0 e1 e2 e3 e4 e5
  obtain ⟨s, k0, _, _⟩ := DataW.trod_int Tryz.underlying3 e0
  obtain ⟨t, k1, _, _⟩ := DataW.trod_int Tryz.underlying3 e1
  obtain ⟨l, k2, _, _⟩ := DataW.trod_int Tryz.underlying3 e2
  obtain ⟨q, k3, _, _⟩ := DataW.trod_int Tryz.underlying3 e3
  obtain ⟨st, k4, _⟩ := DataW.trod_bool Tryz.underlying4 e4
  obtain ⟨a, m, cap, zs, k5, hr⟩ := open_row (a := z5) e5
  simp [cells3, cells4] at k0 k1 k2 k3 k4
  subst k0 k1 k2 k3 k4 k5
  exact ⟨s, t, l, q, st, a, m, cap, zs, rfl, hr⟩

/-- a packet: its numbers, where its Body lies, its Body -/
structure Pk where
  s : Int
  t : Int
  l : Int
  q : Int
  st : Bool
  a : Option Addr
  m : Nat
  c : Nat
  L : List Nat
/-- a packet lies from an address on -/
def PkAt (w : World) (b o : Nat) (p : Pk) : Prop :=
  w.cell? ⟨b, o, none⟩ = some (.int .i64 p.s) ∧ w.cell? ⟨b, o + 1, none⟩ = some (.int .i64 p.t) ∧ w.cell? ⟨b, o + 2, none⟩ = some (.int .i64 p.l) ∧ w.cell? ⟨b, o + 3, none⟩ = some (.int .i64 p.q) ∧ w.cell? ⟨b, o + 4, none⟩ = some (.bool p.st) ∧ w.cell? ⟨b, o + 5, none⟩ = some (.slice p.a p.m p.c)
/-- its Body is there -/
def PkOk (w : World) (p : Pk) : Prop := Arg w p.a p.m p.L ∧ (p.a = none → p.m = 0 ∧ p.c = 0)
def Pks (w : World) (a : Option Addr) (len : Nat) (F : Nat → Pk) : Prop :=
  len ≤ 9223372036854775807 ∧ ∀ j, j < len → ∃ b o, a = some ⟨b, o, none⟩ ∧ b < w.heap.size ∧ PkAt w b (o + j * 6) (F j) ∧ PkOk w (F j)
/-- an empty packet -/
def noPk : Pk := ⟨0, 0, 0, 0, false, none, 0, 0, []⟩

set_option maxRecDepth 100000 in
theorem open_pks {H : Type} {enc : TypeId × Value → H} {W : World} {b0 : Nat} {v : Value} {d : DataW H} {p : List MemPlace} (hv : Value.okWide Tryz.prog W .any b0 51 v) (h : DataW.Trod enc Tryz.prog W 0 (fun _ => true) true 51 v d p) :
    ∃ b len cap F, v = .slice b len cap ∧ Pks W b len F := by
  obtain ⟨a, l, c, rfl⟩ := okWide_slice Tryz.underlying51 hv
  obtain ⟨fuel, hf⟩ := h
  rcases Go.Deep.open_slice Tryz.underlying51 hf with ⟨hcs, _⟩ | ⟨x, len, cap, m, n, D, Pl, hcs, _, hl, hm, hmm, _, hx⟩
  · simp only [Value.cells, List.cons.injEq, and_true] at hcs
    exact ⟨none, 0, 0, fun _ => noPk, hcs, by omega, fun j hj => absurd hj (by omega)⟩
  · simp only [Value.cells, List.cons.injEq, and_true] at hcs
    have hmc : m = cap := by simpa using hmm
    have each : ∀ i, i < m → ∃ q : Pk, (W.cell? (x.add (i * 6)) = some (.int .i64 q.s) ∧ W.cell? (x.add (i * 6 + 1)) = some (.int .i64 q.t) ∧ W.cell? (x.add (i * 6 + 2)) = some (.int .i64 q.l) ∧ W.cell? (x.add (i * 6 + 3)) = some (.int .i64 q.q) ∧ W.cell? (x.add (i * 6 + 4)) = some (.bool q.st) ∧ W.cell? (x.add (i * 6 + 5)) = some (.slice q.a q.m q.c)) ∧ PkOk W q := by
      intro i hi
      obtain ⟨cs', h1, h2⟩ := hx i hi
      rw [cellsPK] at h1
      obtain ⟨_, hlen, hcell⟩ := World.cells?_some h1
      obtain ⟨xs, k, _, _, _, hxl, hfi⟩ := DataW.trod_struct Tryz.underlying31 h2
      obtain ⟨z0, z1, z2, z3, z4, z5, rfl⟩ := six_list hlen
      obtain ⟨y0, y1, y2, y3, y4, y5, rfl⟩ := six_list hxl
      have e0 := hfi 0 _ rfl
      have e1 := hfi 1 _ rfl
      have e2 := hfi 2 _ rfl
      have e3 := hfi 3 _ rfl
      have e4 := hfi 4 _ rfl
      have e5 := hfi 5 _ rfl
      obtain ⟨s, k0, _, _⟩ := DataW.trod_int Tryz.underlying3 e0
      obtain ⟨t, k1, _, _⟩ := DataW.trod_int Tryz.underlying3 e1
      obtain ⟨l, k2, _, _⟩ := DataW.trod_int Tryz.underlying3 e2
      obtain ⟨q, k3, _, _⟩ := DataW.trod_int Tryz.underlying3 e3
      obtain ⟨st, k4, _⟩ := DataW.trod_bool Tryz.underlying4 e4
      obtain ⟨a5, m5, cap5, zs, k5, hr⟩ := open_row (a := z5) e5
      simp [cells3, cells4] at k0 k1 k2 k3 k4
      subst k0 k1 k2 k3 k4 k5
      refine ⟨⟨s, t, l, q, st, a5, m5, cap5, (zs.take m5).map Int.toNat⟩, ⟨?_, ?_, ?_, ?_, ?_, ?_⟩, (bytes_of hr).1, none_of hr⟩
      · have := hcell 0 (by omega); rw [Go.Deep.add_add] at this; simpa using this
      · have := hcell 1 (by omega); rw [Go.Deep.add_add] at this; simpa using this
      · have := hcell 2 (by omega); rw [Go.Deep.add_add] at this; simpa using this
      · have := hcell 3 (by omega); rw [Go.Deep.add_add] at this; simpa using this
      · have := hcell 4 (by omega); rw [Go.Deep.add_add] at this; simpa using this
      · have := hcell 5 (by omega); rw [Go.Deep.add_add] at this; simpa using this
    obtain ⟨F, hF⟩ := @Go.Deep.choose_lt Pk ⟨noPk⟩ _ _ each
    refine ⟨some x, len, cap, F, hcs, by unfold maxLen at hm; omega, fun j hj => ?_⟩
    obtain ⟨⟨g0, g1, g2, g3, g4, g5⟩, hok⟩ := hF j (by omega)
    obtain ⟨b, off, spot⟩ := x
    have hspot : spot = none := by have g := (hF 0 (by omega)).1.1; simpa [Addr.add] using World.cell?_spot g
    subst hspot
    rw [add_plain] at g0 g1 g2 g3 g4 g5
    exact ⟨b, off, rfl, World.block_lt_of_cell? W _ g0, ⟨g0, by rw [Nat.add_assoc]; exact g1, by rw [Nat.add_assoc]; exact g2, by rw [Nat.add_assoc]; exact g3, by rw [Nat.add_assoc]; exact g4, by rw [Nat.add_assoc]; exact g5⟩, hok⟩
end Go.Proofs.YtijfocggdjjnjaiGreatDoor.Open
