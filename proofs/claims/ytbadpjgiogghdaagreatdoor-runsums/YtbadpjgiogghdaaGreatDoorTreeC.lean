/-
  What checkParents, ends, checkBelow and Kids of package tree return, and the library's ContainsFunc at numbers. They change nothing that was there.
-/
import Derived.Test.YtbadpjgiogghdaaGreatDoorTreeB
import Derived.Deep.CutRange
namespace Go.Proofs.YtbadpjgiogghdaaGreatDoor.Tree
open Go.ChangeShapes Go.WideShapes Go.ChangeAt Go.RowKit Go.Proofs.YtbadpjgiogghdaaGreatDoor.Mem Go.Proofs.YtbadpjgiogghdaaGreatDoor.TM
set_option linter.unusedVariables false

/-- a block that holds a slice -/
def SBox (w : World) (B : Nat) (v : Value) : Prop := w.heap[B]? = some (.cells #[v] 29 (0, 0))
theorem SBox.new (w : World) (v : Value) : SBox (w.alloc (.cells #[v] 29)) w.heap.size v := heap_alloc_new w _
theorem SBox.lt {w : World} {B : Nat} {v : Value} (h : SBox w B v) : B < w.heap.size := lt_of_block h
theorem SBox.cell {w : World} {B : Nat} {v : Value} (h : SBox w B v) : w.cell? ⟨B, 0, none⟩ = some v := by
  unfold SBox at h
  simp [World.cell?, h]
theorem SBox.below {w w' : World} {B C : Nat} {v : Value} (h : SBox w B v) (hb : Below C w w') (hB : B < C) : SBox w' B v := (hb.block B hB).trans h
theorem lit1 {w : World} {T : TypeId} (c0 : Value) : ∀ j u, [c0][j]? = some u → (w.alloc (.cells #[c0] T)).cell? ((⟨w.heap.size, 0, none⟩ : Addr).add j) = some u := by
  intro j u hu
  have := World.news_of_block (w := w.alloc (.cells #[c0] T)) (cs := #[c0]) (t := T) (fr := (0, 0)) (heap_alloc_new w _)
  exact this j u hu

theorem drop_int {L : List Int} {j : Nat} (h : j < L.length) : L.drop j = dg L j :: L.drop (j + 1) := by
  rw [List.drop_eq_getElem_cons h]
  simp [dg, List.getD_eq_getElem?_getD, List.getElem?_eq_getElem h]
theorem range_drop {n j : Nat} (h : j < n) : (List.range n).drop j = j :: (List.range n).drop (j + 1) := by
  rw [List.drop_eq_getElem_cons (by simpa using h)]
  simp
/-- numbers that were made since w -/
structure NSt (w wr : World) (K : List Int) (v : Value) : Prop where
  below : Below w.heap.size w wr
  own : wr.ownsRow w.heap.size 3 1 v K.length (ic K)
/-- what Kids gives -/
def kl (P : List Int) (x : Int) : List Int := if bf P x = 0 then kd P x P.length else []
theorem kl_len (P : List Int) (x : Int) : (kl P x).length ≤ 16 := by
  unfold kl
  split
  · rename_i h
    have := (bf_zero h).1.len
    have := kd_len P x P.length
    omega
  · simp
end Go.Proofs.YtbadpjgiogghdaaGreatDoor.Tree

