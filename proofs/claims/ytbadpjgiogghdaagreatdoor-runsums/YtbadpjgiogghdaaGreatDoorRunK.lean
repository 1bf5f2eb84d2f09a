/-
  A pair of numbers told as a text.
-/
import Derived.Test.YtbadpjgiogghdaaGreatDoorRunW
import Derived.Deep.RegionHeld3
import Derived.Lib.ItoaLen
namespace Go.Proofs.YtbadpjgiogghdaaGreatDoor.Run
open Go.ChangeShapes Go.WideShapes Go.ChangeAt Go.RowKit Go.Proofs.YtbadpjgiogghdaaGreatDoor.Mem Go.Proofs.YtbadpjgiogghdaaGreatDoor.RN Go.Proofs.YtbadpjgiogghdaaGreatDoor.RC
set_option linter.unusedVariables false

theorem bs_app (x y : List UInt8) : bs x ++ bs y = bs (x ++ y) := by
  apply ByteArray.ext
  simp [bs, ByteArray.data_append]
theorem cat_str (x y : List UInt8) (h : x.length + y.length ≤ 1000000) (W : World) : (binOp .add 9 (.string (bs x)) (.string (bs y))).run Tryz.prog W = .ok (.string (bs (x ++ y))) W := by
  rw [binOp_string_add, run_string_add_sum W _ _ (by rw [bs_size, bs_size]; omega), bs_app]
/-- under way through a pair's text -/
def PTS (ea : Addr) (w : World) (a b : Int) (W : World) : Prop := GW ea W ∧ Below w.heap.size w W ∧ W.heap[w.heap.size]? = some (.cells #[.int .i64 a, .int .i64 b] 83 (0, 0))
theorem PTS.cells {ea : Addr} {w W : World} {a b : Int} (h : PTS ea w a b W) : W.cell? ⟨w.heap.size, 0, none⟩ = some (.int .i64 a) ∧ W.cell? ⟨w.heap.size, 1, none⟩ = some (.int .i64 b) := cells2 h.2.2
theorem PTS.itoa {ea : Addr} {w W : World} {a b n : Int} (h : PTS ea w a b W) (h0 : -9223372036854775808 ≤ n) (h1 : n ≤ 9223372036854775807) :
    Calls Tryz.prog 87 #[.int .i64 n] W fun e w' => e = .returned (.string (bs (Lib.itoa n))) ∧ w'.cell? ⟨w.heap.size, 0, none⟩ = some (.int .i64 a) ∧ w'.cell? ⟨w.heap.size, 1, none⟩ = some (.int .i64 b) ∧ Hid (PTS ea w a b w') := by
  refine (itoa_calls ea n W h.1 h0 h1).mono ?_
  rintro e w' ⟨rfl, hb⟩
  have h2 : PTS ea w a b w' := ⟨h.1.below hb, h.2.1.trans (hb.mono h.2.1.size), (hb.block _ (lt_of_block h.2.2)).trans h.2.2⟩
  exact ⟨rfl, h2.cells.1, h2.cells.2, h2⟩
theorem pts_new (ea : Addr) (a b : Int) (w : World) (g : GW ea w) : PTS ea w a b (w.alloc (.cells #[.int .i64 a, .int .i64 b] 83)).drew := ⟨g.below (((Below.refl _ _).alloc (Nat.le_refl _) _).drew), ((Below.refl _ _).alloc (Nat.le_refl _) _).drew, heap_alloc_new _ _⟩
set_option maxHeartbeats 1000000 in
set_option maxRecDepth 100000 in
theorem pairText_gen (ea : Addr) (a b : Int) (x y : List UInt8) (w : World) (g : GW ea w) (hx : x.length ≤ 21) (hy : y.length ≤ 21)
    (C1 : Hid (∀ W, Hid (PTS ea w a b W) → Calls Tryz.prog 87 #[.int .i64 a] W fun e w' => e = .returned (.string (bs x)) ∧ w'.cell? ⟨w.heap.size, 0, none⟩ = some (.int .i64 a) ∧ w'.cell? ⟨w.heap.size, 1, none⟩ = some (.int .i64 b) ∧ Hid (PTS ea w a b w')))
    (C2 : Hid (∀ W, Hid (PTS ea w a b W) → Calls Tryz.prog 87 #[.int .i64 b] W fun e w' => e = .returned (.string (bs y)) ∧ w'.cell? ⟨w.heap.size, 0, none⟩ = some (.int .i64 a) ∧ w'.cell? ⟨w.heap.size, 1, none⟩ = some (.int .i64 b) ∧ Hid (PTS ea w a b w'))) :
    Calls Tryz.prog 96 #[.agg #[.int .i64 a, .int .i64 b]] w fun e w' => e = .returned (.string (bs (x ++ [58] ++ y))) ∧ Below w.heap.size w w' := by
  have hP2 := pts_new ea a b w g
  have hS0 : (w.alloc (.cells #[.int .i64 a, .int .i64 b] 83)).drew.cell? ⟨w.heap.size, 0, none⟩ = some (.int .i64 a) ∧ (w.alloc (.cells #[.int .i64 a, .int .i64 b] 83)).drew.cell? ⟨w.heap.size, 1, none⟩ = some (.int .i64 b) ∧ Hid (PTS ea w a b (w.alloc (.cells #[.int .i64 a, .int .i64 b] 83)).drew) := ⟨hP2.cells.1, hP2.cells.2, hP2⟩
  have sx := bs_size x
  have sy := bs_size y
  have k1 : (bs x).size ≤ 21 := by omega
  have k2 : (bs y).size ≤ 21 := by omega
  have HF : Hid (bs x ++ ⟨#[58]⟩ ++ bs y = bs (x ++ [58] ++ y)) := hidden (by rw [show (⟨#[58]⟩ : ByteArray) = bs [58] from rfl, bs_app, bs_app])
  generalize bs (x ++ [58] ++ y) = z at HF ⊢
  generalize bs x = X at *
  generalize bs y = Y at *
  have n1 : ¬ 9223372036854775807 < X.size + 1 := by omega
  have n2 : ¬ 9223372036854775807 < X.size + 1 + Y.size := by omega
  have n3 : X.size + 1 ≤ 9223372036854775807 := by omega
  have n4 : X.size + 1 + Y.size ≤ 9223372036854775807 := by omega
  have n5 : (X ++ ⟨#[58]⟩).size + Y.size ≤ 9223372036854775807 := by rw [ByteArray.size_append]; exact n4
  have n6 : ¬ 9223372036854775807 < (X ++ ⟨#[58]⟩).size + Y.size := by omega
  clear sx sy k1 k2
  clear g hP2 hx hy
  go_enter Tryz.func96, Tryz.ntmps96
  go_wp2_with fail
  go_region_held3 (fun w' => w'.cell? ⟨w.heap.size, 0, none⟩ = some (.int .i64 a) ∧ w'.cell? ⟨w.heap.size, 1, none⟩ = some (.int .i64 b) ∧ Hid (PTS ea w a b w')) (with_reducible assumption) (first | (go_at_call 87; with_reducible refine (C1.out _ hS0.2.2).mono ?_; rintro e w1 ⟨rfl, hS1⟩) | (go_at_call 87; with_reducible refine (C2.out _ hS1.2.2).mono ?_; rintro e w2 ⟨rfl, hS2⟩))
  have HB := hidden hS2.2.2.out.2.1
  clear hS1 hS2
  go_wp2_with fail
  go_ret
  exact ⟨by rw [HF.out]; rfl, HB.out⟩
/-- a pair as a text -/
theorem pairText_calls (ea : Addr) (a b : Int) (w : World) (g : GW ea w) (ha0 : -9223372036854775808 ≤ a) (ha1 : a ≤ 9223372036854775807) (hb0 : -9223372036854775808 ≤ b) (hb1 : b ≤ 9223372036854775807) :
    Calls Tryz.prog 96 #[.agg #[.int .i64 a, .int .i64 b]] w fun e w' => e = .returned (.string (bs (pairText (a, b)))) ∧ Below w.heap.size w w' :=
  pairText_gen ea a b (Lib.itoa a) (Lib.itoa b) w g (Lib.itoa_length_le a ha0 ha1) (Lib.itoa_length_le b hb0 hb1) (hidden fun W h => h.out.itoa ha0 ha1) (hidden fun W h => h.out.itoa hb0 hb1)
end Go.Proofs.YtbadpjgiogghdaaGreatDoor.Run

