/-
  What the function Encode of package pack returns, and what it makes. It changes nothing that was there.
-/
import Derived.Test.YtbadpjgiogghdaaGreatDoorPackA
import Derived.Deep.Cut
namespace Go.Proofs.YtbadpjgiogghdaaGreatDoor.Pack
open Go.ChangeShapes Go.WideShapes Go.ChangeAt Go.RowKit Go.Proofs.YtbadpjgiogghdaaGreatDoor.PM Go.Proofs.YtbadpjgiogghdaaGreatDoor.Mem
set_option linter.unusedVariables false

theorem errv_zero : errv 0 = .nilIface := rfl
theorem errv_pos {e : Nat} (h : e ≠ 0) : errv e = .iface 115 (.int .i64 (e : Int)) := by unfold errv; rw [if_neg h]

/-- block g holds a packet -/
def Box (w : World) (g : Nat) (s t l v : Int) (st : Bool) (bv : Value) : Prop := w.heap[g]? = some (.cells #[.int .i64 s, .int .i64 t, .int .i64 l, .int .i64 v, .bool st, bv] 92 (0, 0))
theorem Box.new (w : World) (s t l v : Int) (st : Bool) (bv : Value) : Box (w.alloc (.cells #[.int .i64 s, .int .i64 t, .int .i64 l, .int .i64 v, .bool st, bv] 92)) w.heap.size s t l v st bv := heap_alloc_new w _
theorem Box.below {w w' : World} {g B : Nat} {s t l v : Int} {st : Bool} {bv : Value} (h : Box w g s t l v st bv) (hb : Below B w w') (hg : g < B) : Box w' g s t l v st bv := (hb.block g hg).trans h
theorem Box.lt {w : World} {g : Nat} {s t l v : Int} {st : Bool} {bv : Value} (h : Box w g s t l v st bv) : g < w.heap.size := lt_of_block h
theorem Box.grown {w w' : World} {g : Nat} {s t l v : Int} {st : Bool} {bv : Value} {row : Option Nat} (h : Box w g s t l v st bv) (hg : w.grownBy w' row) (hr : row ≠ some g) : Box w' g s t l v st bv :=
  (hg.block g h.lt (fun e => hr e.symm)).trans h
theorem Box.alloc {w : World} {g : Nat} {s t l v : Int} {st : Bool} {bv : Value} (h : Box w g s t l v st bv) (o : Obj) : Box (w.alloc o) g s t l v st bv := (Below.heap_alloc _ _ _ h.lt).trans h
theorem Box.cells {w : World} {g : Nat} {s t l v : Int} {st : Bool} {bv : Value} (h : Box w g s t l v st bv) :
    w.cell? ⟨g, 0, none⟩ = some (.int .i64 s) ∧ w.cell? ⟨g, 1, none⟩ = some (.int .i64 t) ∧ w.cell? ⟨g, 2, none⟩ = some (.int .i64 l) ∧ w.cell? ⟨g, 3, none⟩ = some (.int .i64 v) ∧ w.cell? ⟨g, 4, none⟩ = some (.bool st) ∧ w.cell? ⟨g, 5, none⟩ = some bv := by
  simp only [Box] at h
  simp [World.cell?, h]

theorem below_old {w w' : World} {o : Obj} (h : Below (w.alloc o).heap.size (w.alloc o) w') : Below w.heap.size w w' :=
  ((Below.refl _ _).alloc (Nat.le_refl _) o).trans (h.mono (by simp))

theorem own_next {w : World} {base m k : Nat} {v : Value} {L K R : List Nat} (h : w.ownsRow base 5 1 v m (cellsOf L ++ cellsOf K)) (hm : m = k) (hR : L ++ K = R) : w.ownsRow base 5 1 v k (cellsOf R) := by
  rw [← cellsOf_app] at h
  rw [← hm, ← hR]; exact h
theorem own_first {w : World} {base g cap : Nat} {L : List Nat} {m : Nat} (h : w.ownsRow base 5 1 (.slice (some ⟨g, 0, none⟩) m cap) m (cellsOf L)) : w.ownsRow base 5 1 (.slice (some ⟨g, 0, none⟩) m cap) m (cellsOf L) := h
theorem blk2 {x y : Int} {a b : Nat} (hx : x = (a : Int)) (hy : y = (b : Int)) : (#[Value.int .u8 x, .int .u8 y] : Array Value) = (cellsOf [a, b]).toArray := by rw [hx, hy]; rfl
theorem blk4 {x y z u : Int} {a b c d : Nat} (hx : x = (a : Int)) (hy : y = (b : Int)) (hz : z = (c : Int)) (hu : u = (d : Int)) : (#[Value.int .u8 x, .int .u8 y, .int .u8 z, .int .u8 u] : Array Value) = (cellsOf [a, b, c, d]).toArray := by rw [hx, hy, hz, hu]; rfl

end Go.Proofs.YtbadpjgiogghdaaGreatDoor.Pack

