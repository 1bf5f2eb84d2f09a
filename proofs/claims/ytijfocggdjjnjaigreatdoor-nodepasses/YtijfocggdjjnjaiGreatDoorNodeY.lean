/-
  What the row 'f, q, is := plain(..)' leaves, in whichever order its variables are made: Rel32.
-/
import Derived.Test.YtijfocggdjjnjaiGreatDoorNodeX
namespace Go.Proofs.YtijfocggdjjnjaiGreatDoor.ND
open Go.ChangeShapes Go.WideShapes Go.ChangeAt Go.RowKit Go.Maps Go.Proofs.YtijfocggdjjnjaiGreatDoor.Mem Go.Proofs.YtijfocggdjjnjaiGreatDoor.NO

/-- what the loop's first row leaves -/
def Rel32 (wr wx : World) (fb pb : Nat) (s t l q h : Int) (st : Bool) (fa : Option Addr) (fm fc : Nat) (qa : Option Addr) (LL qc : Nat) (L : List Nat) : Prop :=
  wx.heap[fb]? = some (.cells #[.int .i64 3, .int .i64 9, .int .i64 5, .int .i64 h, .slice fa fm fc] 40 (0, 0)) ∧ wx.heap[pb]? = some (.cells #[.int .i64 s, .int .i64 t, .int .i64 l, .int .i64 q, .bool st, .slice qa LL qc] 31 (0, 0)) ∧ Below wr.heap.size wr wx ∧ Arg wx qa LL L
abbrev zf : Obj := .cells #[.int .i64 0, .int .i64 0, .int .i64 0, .int .i64 0, .slice none 0 0] 40 (0, 0)
abbrev zp : Obj := .cells #[.int .i64 0, .int .i64 0, .int .i64 0, .int .i64 0, .bool false, .slice none 0 0] 31 (0, 0)
/-- a byte does not lie in a frame -/
theorem no_zf {w : World} {g o : Nat} {x : Nat} (h : w.heap[g]? = some zf) : w.cell? ⟨g, o, none⟩ ≠ some (.int .u8 x) := by
  intro hc'
  simp only [World.cell?, h] at hc'
  rcases (by omega : o = 0 ∨ o = 1 ∨ o = 2 ∨ o = 3 ∨ o = 4 ∨ 5 ≤ o) with h' | h' | h' | h' | h' | h'
  · rw [h'] at hc'; simp at hc'
  · rw [h'] at hc'; simp at hc'
  · rw [h'] at hc'; simp at hc'
  · rw [h'] at hc'; simp at hc'
  · rw [h'] at hc'; simp at hc'
  · rw [Array.getElem?_eq_none (by simpa using h')] at hc'; simp at hc'
theorem no_zp {w : World} {g o : Nat} {x : Nat} (h : w.heap[g]? = some zp) : w.cell? ⟨g, o, none⟩ ≠ some (.int .u8 x) := by
  intro hc'
  simp only [World.cell?, h] at hc'
  rcases (by omega : o = 0 ∨ o = 1 ∨ o = 2 ∨ o = 3 ∨ o = 4 ∨ o = 5 ∨ 6 ≤ o) with h' | h' | h' | h' | h' | h' | h'
  · rw [h'] at hc'; simp at hc'
  · rw [h'] at hc'; simp at hc'
  · rw [h'] at hc'; simp at hc'
  · rw [h'] at hc'; simp at hc'
  · rw [h'] at hc'; simp at hc'
  · rw [h'] at hc'; simp at hc'
  · rw [Array.getElem?_eq_none (by simpa using h')] at hc'; simp at hc'
/-- bytes stay where something else alone is changed -/
theorem arg_only {w w' : World} {bs : List Nat} {a : Option Addr} {n : Nat} {L : List Nat} (o : Only bs w w') (hz : ∀ g ∈ bs, w.heap[g]? = some zf ∨ w.heap[g]? = some zp) (h : Arg w a n L) : Arg w' a n L := by
  refine ⟨⟨h.1.1, fun j hj => ?_⟩, h.2⟩
  obtain ⟨b', o', e, hc⟩ := h.1.2 j hj
  refine ⟨b', o', e, (cell_same (o.2.2.2.2 b' (World.block_lt_of_cell? w ⟨b', o' + j, none⟩ hc) ?_) _).trans hc⟩
  intro hm
  rcases hz b' hm with h' | h'
  · exact no_zf h' hc
  · exact no_zp h' hc
section
variable {wr w3 : World} {s t l q h : Int} {st : Bool} {fa : Option Addr} {fm fc : Nat} {qa : Option Addr} {LL qc : Nat} {L : List Nat}
theorem rel_a (hA : Arg w3 qa LL L) (hB : Below wr.heap.size wr w3) : Rel32 wr ((w3.alloc (.cells #[.int .i64 3, .int .i64 9, .int .i64 5, .int .i64 h, .slice fa fm fc] 40)).alloc (.cells #[.int .i64 s, .int .i64 t, .int .i64 l, .int .i64 q, .bool st, .slice qa LL qc] 31)) w3.heap.size (w3.heap.size + 1) s t l q h st fa fm fc qa LL qc L :=
  ⟨Go.heap_alloc2_old _ _ _, Go.heap_alloc2_new _ _ _, hB.trans ((below2 w3 _ _).mono hB.size), hA.below (below2 w3 _ _)⟩
theorem rel_b (hA : Arg w3 qa LL L) (hB : Below wr.heap.size wr w3) : Rel32 wr ((w3.alloc (.cells #[.int .i64 s, .int .i64 t, .int .i64 l, .int .i64 q, .bool st, .slice qa LL qc] 31)).alloc (.cells #[.int .i64 3, .int .i64 9, .int .i64 5, .int .i64 h, .slice fa fm fc] 40)) (w3.heap.size + 1) w3.heap.size s t l q h st fa fm fc qa LL qc L :=
  ⟨Go.heap_alloc2_new _ _ _, Go.heap_alloc2_old _ _ _, hB.trans ((below2 w3 _ _).mono hB.size), hA.below (below2 w3 _ _)⟩
theorem rel_c (hA : Arg w3 qa LL L) (hB : Below wr.heap.size wr w3) (hz : w3.heap[wr.heap.size]? = some zf) : Rel32 wr ((st5 w3 wr.heap.size (.int .i64 3) (.int .i64 9) (.int .i64 5) (.int .i64 h) (.slice fa fm fc)).alloc (.cells #[.int .i64 s, .int .i64 t, .int .i64 l, .int .i64 q, .bool st, .slice qa LL qc] 31)) wr.heap.size w3.heap.size s t l q h st fa fm fc qa LL qc L := by
  have o1 := st5_only w3 wr.heap.size (.int .i64 3) (.int .i64 9) (.int .i64 5) (.int .i64 h) (.slice fa fm fc)
  have hs : (st5 w3 wr.heap.size (.int .i64 3) (.int .i64 9) (.int .i64 5) (.int .i64 h) (.slice fa fm fc)).heap.size = w3.heap.size := by simp [st5]
  have k1 := st5_same hz (.int .i64 3) (.int .i64 9) (.int .i64 5) (.int .i64 h) (.slice fa fm fc)
  have a1 := arg_only o1 (by simp [hz]) hA
  have b1 := hB.trans (o1.below hB.size (by simp))
  generalize st5 w3 wr.heap.size (.int .i64 3) (.int .i64 9) (.int .i64 5) (.int .i64 h) (.slice fa fm fc) = W at *
  have hb := (Below.refl W.heap.size W).alloc (Nat.le_refl _) (.cells #[.int .i64 s, .int .i64 t, .int .i64 l, .int .i64 q, .bool st, .slice qa LL qc] 31)
  exact ⟨(hb.block _ (lt_of_block k1)).trans k1, by rw [← hs]; exact heap_alloc_new W _, b1.trans (hb.mono b1.size), a1.below hb⟩
theorem rel_d (hA : Arg w3 qa LL L) (hB : Below wr.heap.size wr w3) (hz : w3.heap[wr.heap.size]? = some zp) : Rel32 wr ((st6 w3 wr.heap.size (.int .i64 s) (.int .i64 t) (.int .i64 l) (.int .i64 q) (.bool st) (.slice qa LL qc)).alloc (.cells #[.int .i64 3, .int .i64 9, .int .i64 5, .int .i64 h, .slice fa fm fc] 40)) w3.heap.size wr.heap.size s t l q h st fa fm fc qa LL qc L := by
  have o1 := st6_only w3 wr.heap.size (.int .i64 s) (.int .i64 t) (.int .i64 l) (.int .i64 q) (.bool st) (.slice qa LL qc)
  have hs : (st6 w3 wr.heap.size (.int .i64 s) (.int .i64 t) (.int .i64 l) (.int .i64 q) (.bool st) (.slice qa LL qc)).heap.size = w3.heap.size := by simp [st6]
  have k1 := st6_same hz (.int .i64 s) (.int .i64 t) (.int .i64 l) (.int .i64 q) (.bool st) (.slice qa LL qc)
  have a1 := arg_only o1 (by simp [hz]) hA
  have b1 := hB.trans (o1.below hB.size (by simp))
  generalize st6 w3 wr.heap.size (.int .i64 s) (.int .i64 t) (.int .i64 l) (.int .i64 q) (.bool st) (.slice qa LL qc) = W at *
  have hb := (Below.refl W.heap.size W).alloc (Nat.le_refl _) (.cells #[.int .i64 3, .int .i64 9, .int .i64 5, .int .i64 h, .slice fa fm fc] 40)
  exact ⟨by rw [← hs]; exact heap_alloc_new W _, (hb.block _ (lt_of_block k1)).trans k1, b1.trans (hb.mono b1.size), a1.below hb⟩
theorem rel_st {fb pb : Nat} (hA : Arg w3 qa LL L) (hB : Below wr.heap.size wr w3) (hz : w3.heap[fb]? = some zf ∧ w3.heap[pb]? = some zp) (h1 : wr.heap.size ≤ fb) (h2 : wr.heap.size ≤ pb) (hne : fb ≠ pb) : Rel32 wr (st6 (st5 w3 fb (.int .i64 3) (.int .i64 9) (.int .i64 5) (.int .i64 h) (.slice fa fm fc)) pb (.int .i64 s) (.int .i64 t) (.int .i64 l) (.int .i64 q) (.bool st) (.slice qa LL qc)) fb pb s t l q h st fa fm fc qa LL qc L := by
  have o1 := st5_only w3 fb (.int .i64 3) (.int .i64 9) (.int .i64 5) (.int .i64 h) (.slice fa fm fc)
  have k1 := st5_same hz.1 (.int .i64 3) (.int .i64 9) (.int .i64 5) (.int .i64 h) (.slice fa fm fc)
  have z2 := o1.block hz.2 (by simpa using fun e => hne e.symm)
  have o2 := st6_only (st5 w3 fb (.int .i64 3) (.int .i64 9) (.int .i64 5) (.int .i64 h) (.slice fa fm fc)) pb (.int .i64 s) (.int .i64 t) (.int .i64 l) (.int .i64 q) (.bool st) (.slice qa LL qc)
  have o12 := (o1.mono (cs := [fb, pb]) (by simp)).trans (o2.mono (by simp))
  exact ⟨o2.block k1 (by simpa using hne), st6_same z2 _ _ _ _ _ _, hB.trans (o12.below hB.size (by simp; omega)), arg_only o12 (by simp [hz.1, hz.2]) hA⟩
theorem rel_e (hA : Arg w3 qa LL L) (hB : Below wr.heap.size wr w3) (hz : w3.heap[wr.heap.size]? = some zf ∧ w3.heap[wr.heap.size + 1]? = some zp) : Rel32 wr (st6 (st5 w3 wr.heap.size (.int .i64 3) (.int .i64 9) (.int .i64 5) (.int .i64 h) (.slice fa fm fc)) (wr.heap.size + 1) (.int .i64 s) (.int .i64 t) (.int .i64 l) (.int .i64 q) (.bool st) (.slice qa LL qc)) wr.heap.size (wr.heap.size + 1) s t l q h st fa fm fc qa LL qc L :=
  rel_st hA hB hz (Nat.le_refl _) (by omega) (by omega)
theorem rel_f (hA : Arg w3 qa LL L) (hB : Below wr.heap.size wr w3) (hz : w3.heap[wr.heap.size + 1]? = some zf ∧ w3.heap[wr.heap.size]? = some zp) : Rel32 wr (st6 (st5 w3 (wr.heap.size + 1) (.int .i64 3) (.int .i64 9) (.int .i64 5) (.int .i64 h) (.slice fa fm fc)) wr.heap.size (.int .i64 s) (.int .i64 t) (.int .i64 l) (.int .i64 q) (.bool st) (.slice qa LL qc)) (wr.heap.size + 1) wr.heap.size s t l q h st fa fm fc qa LL qc L :=
  rel_st hA hB hz (by omega) (Nat.le_refl _) (by omega)
theorem rel_c' (hA : Arg w3 qa LL L) (hB : Below wr.heap.size wr w3) (hz : w3.heap[wr.heap.size]? = some zf) : Rel32 wr ((((((w3.setCell ⟨wr.heap.size, 0, none⟩ (.int .i64 3)).setCell ⟨wr.heap.size, 1, none⟩ (.int .i64 9)).setCell ⟨wr.heap.size, 2, none⟩ (.int .i64 5)).setCell ⟨wr.heap.size, 3, none⟩ (.int .i64 h)).setCell ⟨wr.heap.size, 4, none⟩ (.slice fa fm fc)).alloc (.cells #[.int .i64 s, .int .i64 t, .int .i64 l, .int .i64 q, .bool st, .slice qa LL qc] 31)) wr.heap.size w3.heap.size s t l q h st fa fm fc qa LL qc L := rel_c hA hB hz
theorem rel_d' (hA : Arg w3 qa LL L) (hB : Below wr.heap.size wr w3) (hz : w3.heap[wr.heap.size]? = some zp) : Rel32 wr (((((((w3.setCell ⟨wr.heap.size, 0, none⟩ (.int .i64 s)).setCell ⟨wr.heap.size, 1, none⟩ (.int .i64 t)).setCell ⟨wr.heap.size, 2, none⟩ (.int .i64 l)).setCell ⟨wr.heap.size, 3, none⟩ (.int .i64 q)).setCell ⟨wr.heap.size, 4, none⟩ (.bool st)).setCell ⟨wr.heap.size, 5, none⟩ (.slice qa LL qc)).alloc (.cells #[.int .i64 3, .int .i64 9, .int .i64 5, .int .i64 h, .slice fa fm fc] 40)) w3.heap.size wr.heap.size s t l q h st fa fm fc qa LL qc L := rel_d hA hB hz
theorem rel_e' (hA : Arg w3 qa LL L) (hB : Below wr.heap.size wr w3) (hz : w3.heap[wr.heap.size]? = some zf ∧ w3.heap[wr.heap.size + 1]? = some zp) : Rel32 wr (((((((((((w3.setCell ⟨wr.heap.size, 0, none⟩ (.int .i64 3)).setCell ⟨wr.heap.size, 1, none⟩ (.int .i64 9)).setCell ⟨wr.heap.size, 2, none⟩ (.int .i64 5)).setCell ⟨wr.heap.size, 3, none⟩ (.int .i64 h)).setCell ⟨wr.heap.size, 4, none⟩ (.slice fa fm fc)).setCell ⟨wr.heap.size + 1, 0, none⟩ (.int .i64 s)).setCell ⟨wr.heap.size + 1, 1, none⟩ (.int .i64 t)).setCell ⟨wr.heap.size + 1, 2, none⟩ (.int .i64 l)).setCell ⟨wr.heap.size + 1, 3, none⟩ (.int .i64 q)).setCell ⟨wr.heap.size + 1, 4, none⟩ (.bool st)).setCell ⟨wr.heap.size + 1, 5, none⟩ (.slice qa LL qc)) wr.heap.size (wr.heap.size + 1) s t l q h st fa fm fc qa LL qc L := rel_e hA hB hz
theorem rel_f' (hA : Arg w3 qa LL L) (hB : Below wr.heap.size wr w3) (hz : w3.heap[wr.heap.size + 1]? = some zf ∧ w3.heap[wr.heap.size]? = some zp) : Rel32 wr (((((((((((w3.setCell ⟨wr.heap.size + 1, 0, none⟩ (.int .i64 3)).setCell ⟨wr.heap.size + 1, 1, none⟩ (.int .i64 9)).setCell ⟨wr.heap.size + 1, 2, none⟩ (.int .i64 5)).setCell ⟨wr.heap.size + 1, 3, none⟩ (.int .i64 h)).setCell ⟨wr.heap.size + 1, 4, none⟩ (.slice fa fm fc)).setCell ⟨wr.heap.size, 0, none⟩ (.int .i64 s)).setCell ⟨wr.heap.size, 1, none⟩ (.int .i64 t)).setCell ⟨wr.heap.size, 2, none⟩ (.int .i64 l)).setCell ⟨wr.heap.size, 3, none⟩ (.int .i64 q)).setCell ⟨wr.heap.size, 4, none⟩ (.bool st)).setCell ⟨wr.heap.size, 5, none⟩ (.slice qa LL qc)) (wr.heap.size + 1) wr.heap.size s t l q h st fa fm fc qa LL qc L := rel_f hA hB hz
end
end Go.Proofs.YtijfocggdjjnjaiGreatDoor.ND

