/-
  A frame that came in, opened: its four numbers, its slice of bytes. Of data alone; no walk.
-/
import Derived.Test.YtocmajokibfacajGreatMem
import Derived.Test.YtocmajokibfacajGreatRows
import Derived.WalkKit
import Derived.ProofKit
import Derived.OpenShut
import Derived.ChangeOld
import Derived.Below
import Derived.Lib.SmallJoins
namespace Go.Proofs.YtocmajokibfacajGreat.Open
open Go.ChangeShapes Go.WideShapes Go.ChangeAt Go.RowKit Go.Proofs.YtocmajokibfacajGreat.Mem
set_option linter.unusedVariables false

/-- a slice of bytes that came in -/
def IsRow (w : World) (a : Option Addr) (len cap : Nat) (zs : List Int) : Prop :=
  (a = none ∧ len = 0 ∧ cap = 0 ∧ zs = []) ∨
  ∃ x, a = some x ∧ len ≤ cap ∧ cap ≤ maxLen ∧ zs.length = cap ∧ (∀ i, i < zs.length → w.cell? (x.add i) = some (.int .u8 (zs.getD i 0))) ∧ ∀ n ∈ zs, (Lit.int .u8 n).wf = true
theorem none_of {w : World} {a : Option Addr} {len cap : Nat} {zs : List Int} (h : IsRow w a len cap zs) : a = none → len = 0 ∧ cap = 0 := by
  rcases h with ⟨_, h0, h1, _⟩ | ⟨x, rfl, _⟩
  · exact fun _ => ⟨h0, h1⟩
  · intro e; simp at e
theorem bytes_of {w : World} {a : Option Addr} {len cap : Nat} {zs : List Int} (h : IsRow w a len cap zs) : Arg w a len ((zs.take len).map Int.toNat) ∧ len ≤ cap := by
  rcases h with ⟨_, rfl, rfl, rfl⟩ | ⟨x, rfl, h1, h2, h3, h4, h5⟩
  · exact ⟨⟨Bys.nil _ _, rfl, by omega⟩, Nat.le_refl _⟩
  · have hw : ∀ n ∈ zs, 0 ≤ n ∧ n < 256 := by
      intro n hn
      have := bounds_u8 (h5 n hn)
      omega
    refine ⟨⟨⟨?_, ?_⟩, by simp; omega, by unfold maxLen at h2; omega⟩, h1⟩
    · intro c hc
      obtain ⟨n, hn, rfl⟩ := List.mem_map.1 hc
      have := hw n (List.mem_of_mem_take hn)
      omega
    · intro j hj
      have hj' : j < len := by simp at hj; omega
      obtain ⟨b, o, rfl, hc⟩ := ints_at h4 (by omega)
      refine ⟨b, o, rfl, ?_⟩
      rw [hc j (by omega)]
      have hz := hw (zs.getD j 0) (by rw [List.getD_eq_getElem?_getD, List.getElem?_eq_getElem (by omega)]; exact List.getElem_mem _)
      have e : ((zs.take len).map Int.toNat).getD j 0 = (zs.getD j 0).toNat := by
        simp [List.getD_eq_getElem?_getD, List.getElem?_take_of_lt hj', show j < zs.length by omega]
      rw [e, Int.toNat_of_nonneg hz.1]

theorem cellsFR : Tryz.prog.cellsOf 55 = 5 := by kernel_rfl
theorem cells3 : Tryz.prog.cellsOf 3 = 1 := by kernel_rfl
theorem cells4 : Tryz.prog.cellsOf 4 = 1 := by kernel_rfl
theorem cells5 : Tryz.prog.cellsOf 5 = 1 := by kernel_rfl
theorem five {cs : Array Value} (h : cs.size = 5) : ∃ z0 z1 z2 z3 z4, cs = #[z0, z1, z2, z3, z4] := by
  obtain ⟨l⟩ := cs
  match l, h with
  | [z0, z1, z2, z3, z4], _ => exact ⟨z0, z1, z2, z3, z4, rfl⟩
theorem five_list {α : Type} {l : List α} (h : l.length = 5) : ∃ z0 z1 z2 z3 z4, l = [z0, z1, z2, z3, z4] := by
  match l, h with
  | [z0, z1, z2, z3, z4], _ => exact ⟨z0, z1, z2, z3, z4, rfl⟩
theorem open_row {H : Type} {enc : TypeId × Value → H} {W : World} {fuel : Nat} {a : Value} {x : DataW H × List MemPlace} (hf : DataW.trod enc Tryz.prog W 0 (fun _ => true) true fuel 23 [a] = some x) :
    ∃ b len cap zs, a = .slice b len cap ∧ IsRow W b len cap zs := by
  rcases open_ints Tryz.underlying23 Tryz.underlying5 cells5 hf with ⟨hcs, _⟩ | ⟨x, l, c, zs, hcs, _, hl, hm, hz, _, hcell, hwz⟩
  · simp only [List.cons.injEq, and_true] at hcs
    exact ⟨none, 0, 0, [], hcs, .inl ⟨rfl, rfl, rfl, rfl⟩⟩
  · simp only [List.cons.injEq, and_true] at hcs
    exact ⟨some x, l, c, zs, hcs, .inr ⟨x, rfl, hl, hm, by simpa using hz, hcell, hwz⟩⟩
set_option maxRecDepth 100000 in
theorem open_bytes {H : Type} {enc : TypeId × Value → H} {W : World} {b0 : Nat} {v : Value} {d : DataW H} {p : List MemPlace} (hv : Value.okWide Tryz.prog W .any b0 23 v) (h : DataW.Trod enc Tryz.prog W 0 (fun _ => true) true 23 v d p) :
    ∃ b len cap zs, v = .slice b len cap ∧ IsRow W b len cap zs := by
  obtain ⟨a, l, c, rfl⟩ := okWide_slice Tryz.underlying23 hv
  obtain ⟨fuel, hf⟩ := h
  exact open_row hf
theorem bytesOf5 : Tryz.prog.bytesOf 5 = 1 := by kernel_rfl
set_option maxRecDepth 100000 in
theorem open_bytes_sz {H : Type} {enc : TypeId × Value → H} {W : World} {b0 : Nat} {v : Value} {d : DataW H} {p : List MemPlace} (hv : Value.okWide Tryz.prog W .any b0 23 v) (h : DataW.Trod enc Tryz.prog W 0 (fun _ => true) true 23 v d p) :
    ∃ b len cap zs, v = .slice b len cap ∧ IsRow W b len cap zs ∧ (cap = 0 ∨ ∃ es sp, d = .slice es sp ∧ es.length + sp.length = cap) := by
  obtain ⟨a, l, c, rfl⟩ := okWide_slice Tryz.underlying23 hv
  obtain ⟨fuel, hf⟩ := h
  rcases open_ints Tryz.underlying23 Tryz.underlying5 cells5 hf with ⟨hcs, _⟩ | ⟨x, l', c', zs, hcs, _, hl, hm, hz, hx, hcell, hwz⟩
  · simp only [List.cons.injEq, and_true, Value.cells] at hcs
    exact ⟨none, 0, 0, [], hcs, .inl ⟨rfl, rfl, rfl, rfl⟩, .inl rfl⟩
  · simp only [List.cons.injEq, and_true, Value.cells] at hcs
    have hz' : zs.length = c' := by simpa using hz
    refine ⟨some x, l', c', zs, hcs, .inr ⟨x, rfl, hl, hm, hz', hcell, hwz⟩, .inr ⟨_, _, congrArg Prod.fst hx, ?_⟩⟩
    simp only [lits, List.length_map, List.length_take, List.length_drop]
    omega
set_option maxRecDepth 100000 in
theorem open_fr {H : Type} {enc : TypeId × Value → H} {W : World} {b0 : Nat} {v : Value} {d : DataW H} {p : List MemPlace} (hv : Value.okWide Tryz.prog W .any b0 55 v) (h : DataW.Trod enc Tryz.prog W 0 (fun _ => true) true 55 v d p) :
    ∃ (t o e q : Int) (a : Option Addr) (n cap : Nat) (zs : List Int), v = .agg #[.int .i64 t, .int .i64 o, .int .i64 e, .int .i64 q, .slice a n cap] ∧ IsRow W a n cap zs := by
  obtain ⟨cs, rfl, hsz⟩ := okWide_struct Tryz.underlying55 hv
  rw [cellsFR] at hsz
  obtain ⟨z0, z1, z2, z3, z4, rfl⟩ := five hsz
  obtain ⟨fuel, hf⟩ := h
  obtain ⟨xs, n, _, _, _, hlen, hfi⟩ := DataW.trod_struct Tryz.underlying55 hf
  obtain ⟨y0, y1, y2, y3, y4, rfl⟩ := five_list hlen
  have e0 := hfi 0 _ rfl
  have e1 := hfi 1 _ rfl
  have e2 := hfi 2 _ rfl
  have e3 := hfi 3 _ rfl
  have e4 := hfi 4 _ rfl
  simp only [Value.cells] at e0 e1 e2 e3 e4
  obtain ⟨t, k0, _, _⟩ := DataW.trod_int Tryz.underlying3 e0
  obtain ⟨o, k1, _, _⟩ := DataW.trod_int Tryz.underlying3 e1
  obtain ⟨e, k2, _, _⟩ := DataW.trod_int Tryz.underlying3 e2
  obtain ⟨q, k3, _, _⟩ := DataW.trod_int Tryz.underlying3 e3
  obtain ⟨a, m, cap, zs, k4, hr⟩ := open_row (a := z4) e4
  simp [cells3] at k0 k1 k2 k3
  subst k0 k1 k2 k3 k4
  exact ⟨t, o, e, q, a, m, cap, zs, rfl, hr⟩
end Go.Proofs.YtocmajokibfacajGreat.Open

