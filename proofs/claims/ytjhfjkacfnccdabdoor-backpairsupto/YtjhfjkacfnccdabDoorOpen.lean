/-
  Rows of numbers and of bytes that came in, opened; and what is said back. Of data alone; no walk.
-/
import Derived.Test.YtjhfjkacfnccdabDoorBackA
import Derived.Test.YtjhfjkacfnccdabDoorRows
import Derived.WalkKit
import Derived.ProofKit
import Derived.OpenShut
import Derived.ChangeOld
import Derived.Below
import Derived.Lib.SmallJoins
namespace Go.Proofs.YtjhfjkacfnccdabDoor.Open
open Go.ChangeShapes Go.WideShapes Go.ChangeAt Go.RowKit Go.Proofs.YtjhfjkacfnccdabDoor.Mem Go.Proofs.YtjhfjkacfnccdabDoor.Back
set_option linter.unusedVariables false

theorem cells3 : Tryd.prog.cellsOf 3 = 1 := by kernel_rfl
/-- a row of numbers that came in -/
def IsNums (w : World) (a : Option Addr) (len cap : Nat) (zs : List Int) : Prop :=
  (a = none ∧ len = 0 ∧ cap = 0 ∧ zs = []) ∨
  ∃ x, a = some x ∧ len ≤ cap ∧ cap ≤ maxLen ∧ zs.length = cap ∧ (∀ i, i < zs.length → w.cell? (x.add i) = some (.int .i64 (zs.getD i 0)))
theorem IsNums.none {w : World} {a : Option Addr} {len cap : Nat} {zs : List Int} (h : IsNums w a len cap zs) : a = none → len = 0 ∧ cap = 0 := by
  rcases h with ⟨_, h0, h1, _⟩ | ⟨x, rfl, _⟩
  · exact fun _ => ⟨h0, h1⟩
  · intro e; simp at e
theorem IsNums.le {w : World} {a : Option Addr} {len cap : Nat} {zs : List Int} (h : IsNums w a len cap zs) : len ≤ cap := by
  rcases h with ⟨_, h0, h1, _⟩ | ⟨x, rfl, h, _⟩
  · omega
  · exact h
theorem IsNums.arg {w : World} {a : Option Addr} {len cap : Nat} {zs : List Int} (h : IsNums w a len cap zs) : IArg w a len (zs.take len) := by
  rcases h with ⟨_, rfl, rfl, rfl⟩ | ⟨x, rfl, h1, h2, h3, h4⟩
  · exact IArg.nil _ _
  · refine ⟨fun j hj => ?_, by simp; omega, by unfold maxLen at h2; omega⟩
    have hj' : j < len := by simp at hj; omega
    obtain ⟨b, o, rfl, hc⟩ := ints_at h4 (by omega)
    refine ⟨b, o, rfl, ?_⟩
    rw [hc j (by omega), List.getD_eq_getElem?_getD, List.getD_eq_getElem?_getD, List.getElem?_take_of_lt hj']
theorem open_numrow {H : Type} {enc : TypeId × Value → H} {W : World} {fuel : Nat} {a : Value} {x : DataW H × List MemPlace} (hf : DataW.trod enc Tryd.prog W 0 (fun _ => true) true fuel 53 [a] = some x) :
    ∃ b len cap zs, a = .slice b len cap ∧ IsNums W b len cap zs := by
  rcases open_ints Tryd.underlying53 Tryd.underlying3 cells3 hf with ⟨hcs, _⟩ | ⟨x, l, c, zs, hcs, _, hl, hm, hz, _, hcell, hwz⟩
  · simp only [List.cons.injEq, and_true] at hcs
    exact ⟨none, 0, 0, [], hcs, .inl ⟨rfl, rfl, rfl, rfl⟩⟩
  · simp only [List.cons.injEq, and_true] at hcs
    exact ⟨some x, l, c, zs, hcs, .inr ⟨x, rfl, hl, hm, by simpa using hz, hcell⟩⟩
set_option maxRecDepth 100000 in
theorem open_nums {H : Type} {enc : TypeId × Value → H} {W : World} {b0 : Nat} {v : Value} {d : DataW H} {p : List MemPlace} (hv : Value.okWide Tryd.prog W .any b0 53 v) (h : DataW.Trod enc Tryd.prog W 0 (fun _ => true) true 53 v d p) :
    ∃ b len cap zs, v = .slice b len cap ∧ IsNums W b len cap zs := by
  obtain ⟨a, l, c, rfl⟩ := okWide_slice Tryd.underlying53 hv
  obtain ⟨fuel, hf⟩ := h
  exact open_numrow hf
/-- a slice of bytes that came in -/
def IsRow (w : World) (a : Option Addr) (len cap : Nat) (zs : List Int) : Prop :=
  (a = none ∧ len = 0 ∧ cap = 0 ∧ zs = []) ∨
  ∃ x, a = some x ∧ len ≤ cap ∧ cap ≤ maxLen ∧ zs.length = cap ∧ (∀ i, i < zs.length → w.cell? (x.add i) = some (.int .u8 (zs.getD i 0))) ∧ ∀ n ∈ zs, (Lit.int .u8 n).wf = true
theorem none_of {w : World} {a : Option Addr} {len cap : Nat} {zs : List Int} (h : IsRow w a len cap zs) : a = none → len = 0 ∧ cap = 0 := by
  rcases h with ⟨_, h0, h1, _⟩ | ⟨x, rfl, _⟩
  · exact fun _ => ⟨h0, h1⟩
  · intro e; simp at e
theorem bytes_of {w : World} {a : Option Addr} {len cap : Nat} {zs : List Int} (h : IsRow w a len cap zs) : Arg w a len ((zs.take len).map Int.toNat) ∧ len ≤ cap := by
  rcases h with ⟨_, rfl, rfl, rfl⟩ | ⟨x, rfl, h1, h2, h3, h4, h5⟩
  · exact ⟨⟨Bys.nil _ _, rfl, by omega⟩, Nat.le_refl _⟩
  · have hw : ∀ n ∈ zs, 0 ≤ n ∧ n < 256 := by
      intro n hn
      have := bounds_u8 (h5 n hn)
      omega
    refine ⟨⟨⟨?_, ?_⟩, by simp; omega, by unfold maxLen at h2; omega⟩, h1⟩
    · intro c hc
      obtain ⟨n, hn, rfl⟩ := List.mem_map.1 hc
      have := hw n (List.mem_of_mem_take hn)
      omega
    · intro j hj
      have hj' : j < len := by simp at hj; omega
      obtain ⟨b, o, rfl, hc⟩ := ints_at h4 (by omega)
      refine ⟨b, o, rfl, ?_⟩
      rw [hc j (by omega)]
      have hz := hw (zs.getD j 0) (by rw [List.getD_eq_getElem?_getD, List.getElem?_eq_getElem (by omega)]; exact List.getElem_mem _)
      have e : ((zs.take len).map Int.toNat).getD j 0 = (zs.getD j 0).toNat := by
        simp [List.getD_eq_getElem?_getD, List.getElem?_take_of_lt hj', show j < zs.length by omega]
      rw [e, Int.toNat_of_nonneg hz.1]

theorem cells5 : Tryd.prog.cellsOf 5 = 1 := by kernel_rfl
theorem cellsBK : Tryd.prog.cellsOf 56 = 4 := by kernel_rfl
theorem open_row {H : Type} {enc : TypeId × Value → H} {W : World} {fuel : Nat} {a : Value} {x : DataW H × List MemPlace} (hf : DataW.trod enc Tryd.prog W 0 (fun _ => true) true fuel 22 [a] = some x) :
    ∃ b len cap zs, a = .slice b len cap ∧ IsRow W b len cap zs := by
  rcases open_ints Tryd.underlying22 Tryd.underlying5 cells5 hf with ⟨hcs, _⟩ | ⟨x, l, c, zs, hcs, _, hl, hm, hz, _, hcell, hwz⟩
  · simp only [List.cons.injEq, and_true] at hcs
    exact ⟨none, 0, 0, [], hcs, .inl ⟨rfl, rfl, rfl, rfl⟩⟩
  · simp only [List.cons.injEq, and_true] at hcs
    exact ⟨some x, l, c, zs, hcs, .inr ⟨x, rfl, hl, hm, by simpa using hz, hcell, hwz⟩⟩
set_option maxRecDepth 100000 in
theorem open_bytes {H : Type} {enc : TypeId × Value → H} {W : World} {b0 : Nat} {v : Value} {d : DataW H} {p : List MemPlace} (hv : Value.okWide Tryd.prog W .any b0 22 v) (h : DataW.Trod enc Tryd.prog W 0 (fun _ => true) true 22 v d p) :
    ∃ b len cap zs, v = .slice b len cap ∧ IsRow W b len cap zs := by
  obtain ⟨a, l, c, rfl⟩ := okWide_slice Tryd.underlying22 hv
  obtain ⟨fuel, hf⟩ := h
  exact open_row hf
theorem four {cs : Array Value} (h : cs.size = 4) : ∃ z0 z1 z2 z3, cs = #[z0, z1, z2, z3] := by
  obtain ⟨l⟩ := cs
  match l, h with
  | [z0, z1, z2, z3], _ => exact ⟨z0, z1, z2, z3, rfl⟩
theorem four_list {α : Type} {l : List α} (h : l.length = 4) : ∃ z0 z1 z2 z3, l = [z0, z1, z2, z3] := by
  match l, h with
  | [z0, z1, z2, z3], _ => exact ⟨z0, z1, z2, z3, rfl⟩
set_option maxRecDepth 100000 in
theorem open_bk {H : Type} {enc : TypeId × Value → H} {W : World} {b0 : Nat} {v : Value} {d : DataW H} {p : List MemPlace} (hv : Value.okWide Tryd.prog W .any b0 56 v) (h : DataW.Trod enc Tryd.prog W 0 (fun _ => true) true 56 v d p) :
    ∃ (k t : Int) (a : Option Addr) (n cap : Nat) (zs : List Int) (u : Int), v = .agg #[.int .i64 k, .int .i64 t, .slice a n cap, .int .i64 u] ∧ IsNums W a n cap zs := by
  obtain ⟨cs, rfl, hsz⟩ := okWide_struct Tryd.underlying56 hv
  rw [cellsBK] at hsz
  obtain ⟨z0, z1, z2, z3, rfl⟩ := four hsz
  obtain ⟨fuel, hf⟩ := h
  obtain ⟨xs, n, _, _, _, hlen, hfi⟩ := DataW.trod_struct Tryd.underlying56 hf
  obtain ⟨y0, y1, y2, y3, rfl⟩ := four_list hlen
  have e0 := hfi 0 _ rfl
  have e1 := hfi 1 _ rfl
  have e2 := hfi 2 _ rfl
  have e3 := hfi 3 _ rfl
  simp only [Value.cells] at e0 e1 e2 e3
  obtain ⟨k, k0, _, _⟩ := DataW.trod_int Tryd.underlying3 e0
  obtain ⟨t, k1, _, _⟩ := DataW.trod_int Tryd.underlying3 e1
  obtain ⟨a, m, cap, zs, k2, hr⟩ := open_numrow (a := z2) e2
  obtain ⟨u, k3, _, _⟩ := DataW.trod_int Tryd.underlying3 e3
  simp [cells3] at k0 k1 k3
  subst k0 k1 k2 k3
  exact ⟨k, t, a, m, cap, zs, u, rfl, hr⟩
end Go.Proofs.YtjhfjkacfnccdabDoor.Open
