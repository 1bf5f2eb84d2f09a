/-
  What New, Limit, Now and Wants of package layer return, and what they leave in memory. No condition.
-/
import Derived.Test.YtijfocggdjjnjaiGreatDoorMathAll
import Derived.Test.YtijfocggdjjnjaiGreatDoorPackAll
import Derived.Outline
import Derived.RegionTactic
namespace Go.Proofs.YtijfocggdjjnjaiGreatDoor.Layer
open Go.ChangeShapes Go.WideShapes Go.ChangeAt Go.RowKit Go.Proofs.YtijfocggdjjnjaiGreatDoor.PM Go.Proofs.YtijfocggdjjnjaiGreatDoor.Mem Go.Proofs.YtijfocggdjjnjaiGreatDoor.Pack Go.Proofs.YtijfocggdjjnjaiGreatDoor.LM
set_option linter.unusedVariables false

/-- a Layer in memory -/
def LayerAt (w : World) (b : Nat) (m nw la : Int) (br : Bool) : Prop := w.heap[b]? = some (.cells #[.int .i64 m, .int .i64 nw, .int .i64 la, .bool br] 180 (0, 0))
theorem LayerAt.cells {w : World} {b : Nat} {m nw la : Int} {br : Bool} (h : LayerAt w b m nw la br) :
    w.cell? ⟨b, 0, none⟩ = some (.int .i64 m) ∧ w.cell? ⟨b, 1, none⟩ = some (.int .i64 nw) ∧ w.cell? ⟨b, 2, none⟩ = some (.int .i64 la) ∧ w.cell? ⟨b, 3, none⟩ = some (.bool br) := by
  simp only [LayerAt] at h
  refine ⟨?_, ?_, ?_, ?_⟩ <;> simp [World.cell?, h]
theorem LayerAt.free {w : World} {b : Nat} {m nw la : Int} {br : Bool} (h : LayerAt w b m nw la br) (j : Nat) : w.frozen? ⟨b, j, none⟩ = false := by
  simp only [LayerAt] at h
  simp [World.frozen?, h]
theorem LayerAt.lt {w : World} {b : Nat} {m nw la : Int} {br : Bool} (h : LayerAt w b m nw la br) : b < w.heap.size := lt_of_block h
theorem LayerAt.only {w w' : World} {b : Nat} {m nw la : Int} {br : Bool} {bs : List Nat} (h : LayerAt w b m nw la br) (ho : Only bs w w') (hb : b ∉ bs) : LayerAt w' b m nw la br := ho.block h hb
theorem LayerAt.below {w w' : World} {b : Nat} {m nw la : Int} {br : Bool} (h : LayerAt w b m nw la br) (hb : Below w.heap.size w w') : LayerAt w' b m nw la br := h.only (Only.of_below hb []) (by simp)
theorem LayerAt.alloc {w : World} {b : Nat} {m nw la : Int} {br : Bool} (h : LayerAt w b m nw la br) (O : Obj) : LayerAt (w.alloc O) b m nw la br := h.below ((Below.refl _ _).alloc (Nat.le_refl _) O)
theorem LayerAt.setM {w : World} {b : Nat} {m nw la : Int} {br : Bool} (h : LayerAt w b m nw la br) (x : Int) : LayerAt (w.setCell ⟨b, 0, none⟩ (.int .i64 x)) b x nw la br := heap_setCell_same w b 0 _ _ _ h
theorem LayerAt.setN {w : World} {b : Nat} {m nw la : Int} {br : Bool} (h : LayerAt w b m nw la br) (x : Int) : LayerAt (w.setCell ⟨b, 1, none⟩ (.int .i64 x)) b m x la br := heap_setCell_same w b 1 _ _ _ h
theorem LayerAt.setL {w : World} {b : Nat} {m nw la : Int} {br : Bool} (h : LayerAt w b m nw la br) (x : Int) : LayerAt (w.setCell ⟨b, 2, none⟩ (.int .i64 x)) b m nw x br := heap_setCell_same w b 2 _ _ _ h
theorem LayerAt.setB {w : World} {b : Nat} {m nw la : Int} {br : Bool} (h : LayerAt w b m nw la br) (x : Bool) : LayerAt (w.setCell ⟨b, 3, none⟩ (.bool x)) b m nw la x := heap_setCell_same w b 3 _ _ _ h

theorem mayBe_calls (y : Int) (w : World) :
    Calls Tryz.prog 85 #[.int .i64 y] w fun e w' => e = .returned (.bool (decide (0 ≤ y ∧ y ≤ 3))) ∧ w' = w := by
  by_cases h : 0 ≤ y
  · have d : decide (0 ≤ y) = true := by simpa using h
    go_enter Tryz.func85, Tryz.ntmps85
    go_wp2_with fail
    go_ret
    exact ⟨by simp [h], rfl⟩
  · have d : decide (0 ≤ y) = false := by simpa using h
    go_enter Tryz.func85, Tryz.ntmps85
    go_wp2_with fail
    go_ret
    exact ⟨by simp, rfl⟩
theorem mayBe_yes (y : Int) (w : World) (h0 : 0 ≤ y) (h1 : y ≤ 3) :
    Calls Tryz.prog 85 #[.int .i64 y] w fun e w' => e = .returned (.bool true) ∧ w' = w := by
  have := mayBe_calls y w
  rw [show decide (0 ≤ y ∧ y ≤ 3) = true by simp [h0, h1]] at this
  exact this
theorem mayBe_no (y : Int) (w : World) (h : y < 0 ∨ 3 < y) :
    Calls Tryz.prog 85 #[.int .i64 y] w fun e w' => e = .returned (.bool false) ∧ w' = w := by
  have := mayBe_calls y w
  rw [show decide (0 ≤ y ∧ y ≤ 3) = false by simp; omega] at this
  exact this

theorem new_ok (m : Int) (w : World) (h0 : 0 ≤ m) (h1 : m ≤ 3) :
    Calls Tryz.prog 53 #[.int .i64 m] w fun e w' => ∃ b, e = .returned (.tuple #[.pointer (some ⟨b, 0, none⟩), .nilIface]) ∧ w.heap.size ≤ b ∧ LayerAt w' b m (-1) (-1) false ∧ Below w.heap.size w w' := by
  have H := hidden (fun W => mayBe_yes m W h0 h1)
  go_enter Tryz.func53, Tryz.ntmps53
  go_wp2_with fail
  refine (H.out _).mono ?_
  rintro e w1 ⟨rfl, rfl⟩
  go_wp2_with fail
  go_ret2
  exact ⟨_, rfl, Nat.le_refl _, heap_alloc_new _ _, (Below.refl _ _).alloc (Nat.le_refl _) _⟩
theorem new_err (m : Int) (w : World) (h : m < 0 ∨ 3 < m) :
    Calls Tryz.prog 53 #[.int .i64 m] w fun e w' => e = .returned (.tuple #[.pointer none, errv 1]) ∧ w' = w := by
  have H := hidden (fun W => mayBe_no m W h)
  clear h
  go_enter Tryz.func53, Tryz.ntmps53
  go_wp2_with fail
  refine (H.out _).mono ?_
  rintro e w1 ⟨rfl, rfl⟩
  go_wp2_with fail
  go_ret2
  exact ⟨rfl, rfl⟩
set_option maxHeartbeats 1000000 in
theorem wants_calls (b : Nat) (m nw la : Int) (br : Bool) (w : World) (h : LayerAt w b m nw la br) :
    Calls Tryz.prog 139 #[.pointer (some ⟨b, 0, none⟩)] w fun e w' => e = .returned (.bool (wants m nw br)) ∧ ∃ k, w' = w.drewN k := by
  obtain ⟨c0, c1, c2, c3⟩ := h.cells
  clear h c2
  by_cases p : nw = -1
  · have e : wants m nw br = true := by simp [wants, p]
    rw [e]
    subst p
    clear e
    go_enter Tryz.func139, Tryz.ntmps139
    go_wp2_with fail
    go_quiet (fail)
    go_wp2_with fail
    go_ret
    exact ⟨rfl, _, rfl⟩
  · have e : wants m nw br = (br || decide (m < nw)) := by simp [wants, p]
    rw [e]
    clear e
    have d1 : (nw == -1) = false := by simpa using p
    have d2 : decide (nw = -1) = false := by simpa using p
    clear p
    cases br with
    | true =>
      go_enter Tryz.func139, Tryz.ntmps139
      go_wp2_with fail
      go_quiet (fail)
      go_wp2_with fail
      go_ret
      exact ⟨rfl, _, rfl⟩
    | false =>
      go_enter Tryz.func139, Tryz.ntmps139
      go_wp2_with fail
      go_quiet (fail)
      go_wp2_with fail
      go_ret
      exact ⟨rfl, _, rfl⟩
end Go.Proofs.YtijfocggdjjnjaiGreatDoor.Layer

