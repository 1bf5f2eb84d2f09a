/-
  Rows of numbers and of bytes that came in, opened; and what is said back. Of data alone; no walk.
-/
import Derived.Test.YtlcbcaeebjgnfacBackA
import Derived.Test.YtlcbcaeebjgnfacRows
import Derived.WalkKit
import Derived.ProofKit
import Derived.OpenShut
import Derived.ChangeOld
import Derived.Below
import Derived.Lib.SmallJoins
namespace Go.Proofs.Ytlcbcaeebjgnfac.Open
open Go.ChangeShapes Go.WideShapes Go.ChangeAt Go.RowKit Go.Proofs.Ytlcbcaeebjgnfac.Mem Go.Proofs.Ytlcbcaeebjgnfac.Back
set_option linter.unusedVariables false

theorem cells3 : Try.prog.cellsOf 3 = 1 := by kernel_rfl
/-- a row of numbers that came in -/
def IsNums (w : World) (a : Option Addr) (len cap : Nat) (zs : List Int) : Prop :=
  (a = none ∧ len = 0 ∧ cap = 0 ∧ zs = []) ∨
  ∃ x, a = some x ∧ len ≤ cap ∧ cap ≤ maxLen ∧ zs.length = cap ∧ (∀ i, i < zs.length → w.cell? (x.add i) = some (.int .i64 (zs.getD i 0)))
theorem IsNums.none {w : World} {a : Option Addr} {len cap : Nat} {zs : List Int} (h : IsNums w a len cap zs) : a = none → len = 0 ∧ cap = 0 := by
  rcases h with ⟨_, h0, h1, _⟩ | ⟨x, rfl, _⟩
  · exact fun _ => ⟨h0, h1⟩
  · intro e; simp at e
theorem IsNums.le {w : World} {a : Option Addr} {len cap : Nat} {zs : List Int} (h : IsNums w a len cap zs) : len ≤ cap := by
  rcases h with ⟨_, h0, h1, _⟩ | ⟨x, rfl, h, _⟩
  · omega
  · exact h
theorem IsNums.arg {w : World} {a : Option Addr} {len cap : Nat} {zs : List Int} (h : IsNums w a len cap zs) : IArg w a len (zs.take len) := by
  rcases h with ⟨_, rfl, rfl, rfl⟩ | ⟨x, rfl, h1, h2, h3, h4⟩
  · exact IArg.nil _ _
  · refine ⟨fun j hj => ?_, by simp; omega, by unfold maxLen at h2; omega⟩
    have hj' : j < len := by simp at hj; omega
    obtain ⟨b, o, rfl, hc⟩ := ints_at h4 (by omega)
    refine ⟨b, o, rfl, ?_⟩
    rw [hc j (by omega), List.getD_eq_getElem?_getD, List.getD_eq_getElem?_getD, List.getElem?_take_of_lt hj']
theorem open_numrow {H : Type} {enc : TypeId × Value → H} {W : World} {fuel : Nat} {a : Value} {x : DataW H × List MemPlace} (hf : DataW.trod enc Try.prog W 0 (fun _ => true) true fuel 22 [a] = some x) :
    ∃ b len cap zs, a = .slice b len cap ∧ IsNums W b len cap zs := by
  rcases open_ints Try.underlying22 Try.underlying3 cells3 hf with ⟨hcs, _⟩ | ⟨x, l, c, zs, hcs, _, hl, hm, hz, _, hcell, hwz⟩
  · simp only [List.cons.injEq, and_true] at hcs
    exact ⟨none, 0, 0, [], hcs, .inl ⟨rfl, rfl, rfl, rfl⟩⟩
  · simp only [List.cons.injEq, and_true] at hcs
    exact ⟨some x, l, c, zs, hcs, .inr ⟨x, rfl, hl, hm, by simpa using hz, hcell⟩⟩
set_option maxRecDepth 100000 in
theorem open_nums {H : Type} {enc : TypeId × Value → H} {W : World} {b0 : Nat} {v : Value} {d : DataW H} {p : List MemPlace} (hv : Value.okWide Try.prog W .any b0 22 v) (h : DataW.Trod enc Try.prog W 0 (fun _ => true) true 22 v d p) :
    ∃ b len cap zs, v = .slice b len cap ∧ IsNums W b len cap zs := by
  obtain ⟨a, l, c, rfl⟩ := okWide_slice Try.underlying22 hv
  obtain ⟨fuel, hf⟩ := h
  exact open_numrow hf
end Go.Proofs.Ytlcbcaeebjgnfac.Open
