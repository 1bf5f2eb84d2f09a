/-
  What the functions Check, fresh and number of package pack return, and what they make. They change nothing that was there.
-/
import Derived.Test.YtbadpjgiogghdaaGreatDoorPackMath
import Derived.Test.YtbadpjgiogghdaaGreatDoorMem
import Derived.Test.YtbadpjgiogghdaaGreatDoorRows
import Derived.WalkKit
import Derived.ProofKit
import Derived.OpenShut
import Derived.ChangeOld
import Derived.Below
import Derived.Deep.QuietTactic
import Derived.BigQuiet
import Derived.Laws.AppendOwnNone
import Derived.WalkSmall
import Derived.WalkSpells
import Derived.LoopTactic
import Derived.Laws.BitsAllLaws
namespace Go.Proofs.YtbadpjgiogghdaaGreatDoor.Pack
open Go.ChangeShapes Go.WideShapes Go.ChangeAt Go.RowKit Go.Proofs.YtbadpjgiogghdaaGreatDoor.PM Go.Proofs.YtbadpjgiogghdaaGreatDoor.Mem
set_option linter.unusedVariables false

theorem info5 : (Tryz.prog.info? 5).map (fun i => (i.zero, i.size, i.bytes)) = some (some (.int .u8 0), 1, 1) := by kernel_rfl
/-- what is told as the error of number e -/
def errv (e : Nat) : Value := if e = 0 then .nilIface else .iface 115 (.int .i64 (e : Int))

theorem within_calls (x m : Int) (w : World) : Calls Tryz.prog 188 #[.int .i64 x, .int .i64 m] w fun e w' => e = .returned (.bool (decide (0 ≤ x ∧ x ≤ m))) ∧ w' = w := by
  by_cases h : 0 ≤ x
  · have d : decide (0 ≤ x) = true := by simpa using h
    go_enter Tryz.func188, Tryz.ntmps188
    go_wp2_with fail
    go_ret
    exact ⟨by simp [h], rfl⟩
  · have d : decide (0 ≤ x) = false := by simpa using h
    go_enter Tryz.func188, Tryz.ntmps188
    go_wp2_with fail
    go_ret
    exact ⟨by simp, rfl⟩

set_option maxHeartbeats 1000000 in
set_option maxRecDepth 100000 in
theorem check_calls (s t l v : Int) (st : Bool) (a : Option Addr) (n cap : Nat) (w : World) :
    Calls Tryz.prog 151 #[.agg #[.int .i64 s, .int .i64 t, .int .i64 l, .int .i64 v, .bool st, .slice a n cap]] w fun e w' => e = .returned (errv (fault s t l v n)) ∧ Below w.heap.size w w' := by
  have C1 := fun w => within_calls s 65535 w
  have C2 := fun w => within_calls t 4294967295 w
  have C3 := fun w => within_calls l 3 w
  have C4 := fun w => within_calls v 127 w
  have hf : fault s t l v n = if decide (0 ≤ s ∧ s ≤ 65535) && decide (0 ≤ t ∧ t ≤ 4294967295) && decide (0 ≤ l ∧ l ≤ 3) && decide (0 ≤ v ∧ v ≤ 127) then (if n ≤ 1000 then 0 else 4) else 1 := by
    unfold fault
    simp only [Bool.and_eq_true, decide_eq_true_eq, and_assoc]
  generalize decide (0 ≤ s ∧ s ≤ 65535) = b1 at *
  generalize decide (0 ≤ t ∧ t ≤ 4294967295) = b2 at *
  generalize decide (0 ≤ l ∧ l ≤ 3) = b3 at *
  generalize decide (0 ≤ v ∧ v ≤ 127) = b4 at *
  rw [hf]
  have H1 := hidden C1
  have H2 := hidden C2
  have H3 := hidden C3
  have H4 := hidden C4
  clear C1 C2 C3 C4 hf
  cases b1 with
  | false =>
    go_enter Tryz.func151, Tryz.ntmps151
    go_wp2_with fail
    refine (H1.out _).mono ?_
    rintro e w ⟨rfl, rfl⟩
    go_wp2_with fail
    go_ret
    exact ⟨rfl, (Below.refl _ _).alloc (Nat.le_refl _) _⟩
  | true =>
  cases b2 with
  | false =>
    go_enter Tryz.func151, Tryz.ntmps151
    go_wp2_with fail
    refine (H1.out _).mono ?_
    rintro e w ⟨rfl, rfl⟩
    go_wp2_with fail
    refine (H2.out _).mono ?_
    rintro e w ⟨rfl, rfl⟩
    go_wp2_with fail
    go_ret
    exact ⟨rfl, (Below.refl _ _).alloc (Nat.le_refl _) _⟩
  | true =>
  cases b3 with
  | false =>
    go_enter Tryz.func151, Tryz.ntmps151
    go_wp2_with fail
    refine (H1.out _).mono ?_
    rintro e w ⟨rfl, rfl⟩
    go_wp2_with fail
    refine (H2.out _).mono ?_
    rintro e w ⟨rfl, rfl⟩
    go_wp2_with fail
    refine (H3.out _).mono ?_
    rintro e w ⟨rfl, rfl⟩
    go_wp2_with fail
    go_ret
    exact ⟨rfl, (Below.refl _ _).alloc (Nat.le_refl _) _⟩
  | true =>
  cases b4 with
  | false =>
    go_enter Tryz.func151, Tryz.ntmps151
    go_wp2_with fail
    refine (H1.out _).mono ?_
    rintro e w ⟨rfl, rfl⟩
    go_wp2_with fail
    refine (H2.out _).mono ?_
    rintro e w ⟨rfl, rfl⟩
    go_wp2_with fail
    refine (H3.out _).mono ?_
    rintro e w ⟨rfl, rfl⟩
    go_wp2_with fail
    refine (H4.out _).mono ?_
    rintro e w ⟨rfl, rfl⟩
    go_wp2_with fail
    go_ret
    exact ⟨rfl, (Below.refl _ _).alloc (Nat.le_refl _) _⟩
  | true =>
  by_cases p : n ≤ 1000
  · go_enter Tryz.func151, Tryz.ntmps151
    go_wp2_with fail
    refine (H1.out _).mono ?_
    rintro e w ⟨rfl, rfl⟩
    go_wp2_with fail
    refine (H2.out _).mono ?_
    rintro e w ⟨rfl, rfl⟩
    go_wp2_with fail
    refine (H3.out _).mono ?_
    rintro e w ⟨rfl, rfl⟩
    go_wp2_with fail
    refine (H4.out _).mono ?_
    rintro e w ⟨rfl, rfl⟩
    go_wp2_with fail
    go_ret
    exact ⟨by simp [errv], (Below.refl _ _).alloc (Nat.le_refl _) _⟩
  · go_enter Tryz.func151, Tryz.ntmps151
    go_wp2_with fail
    refine (H1.out _).mono ?_
    rintro e w ⟨rfl, rfl⟩
    go_wp2_with fail
    refine (H2.out _).mono ?_
    rintro e w ⟨rfl, rfl⟩
    go_wp2_with fail
    refine (H3.out _).mono ?_
    rintro e w ⟨rfl, rfl⟩
    go_wp2_with fail
    refine (H4.out _).mono ?_
    rintro e w ⟨rfl, rfl⟩
    go_wp2_with fail
    go_ret
    exact ⟨by simp [errv], (Below.refl _ _).alloc (Nat.le_refl _) _⟩

theorem ret_int {k : IntKind} {a b : Int} (h : a = b) : Ending.returned (.int k a) = .returned (.int k b) := by rw [h]
theorem i64_wrap {n : Int} (h0 : 0 ≤ n) (h1 : n < 9223372036854775808) : IntKind.i64.wrap n = n := by
  simp [IntKind.wrap, IntKind.bits, IntKind.signed]; omega
theorem i64_or_nat (a b : Nat) (ha : a < 9223372036854775808) (hb : b < 9223372036854775808) : bits .or .i64 (a : Int) (b : Int) = ((a ||| b : Nat) : Int) := by
  have hx : a ||| b < 2 ^ 63 := Nat.or_lt_two_pow (by omega) (by omega)
  show IntKind.i64.wrap ((BitVec.ofInt 64 (a : Int) ||| BitVec.ofInt 64 (b : Int)).toNat : Int) = _
  rw [BitVec.toNat_or, ofInt_u64 a (by omega), ofInt_u64 b (by omega)]
  exact i64_wrap (by omega) (by omega)
theorem i64_and_nat (a b : Nat) (ha : a < 9223372036854775808) (hb : b < 9223372036854775808) : bits .and .i64 (a : Int) (b : Int) = ((a &&& b : Nat) : Int) := by
  have hx : a &&& b < 2 ^ 63 := Nat.and_lt_two_pow _ (by omega)
  show IntKind.i64.wrap ((BitVec.ofInt 64 (a : Int) &&& BitVec.ofInt 64 (b : Int)).toNat : Int) = _
  rw [BitVec.toNat_and, ofInt_u64 a (by omega), ofInt_u64 b (by omega)]
  exact i64_wrap (by omega) (by omega)
/-- one byte more, the high one first -/
theorem on_eq (n c : Nat) (hn : n < 16777216) (hc : c < 256) : bits .or .i64 (wrap64 ((n : Int) * 256)) (c : Int) = ((n * 256 + c : Nat) : Int) := by
  have e : wrap64 ((n : Int) * 256) = ((n * 256 : Nat) : Int) := by unfold wrap64; omega
  rw [e, i64_or_nat _ _ (by omega) (by omega), nat_join 8 _ c (by omega) (by omega)]
theorem on_zero (c : Nat) (hc : c < 256) : bits .or .i64 0 (c : Int) = (c : Int) := by
  have := i64_or_nat 0 c (by omega) (by omega)
  rw [Nat.zero_or] at this
  exact this

/-- the layer, and Start, of a first byte -/
theorem lay_eq {x : Nat} (hx : x < 256) : good x = (!(bits .and .u8 (x : Int) 128 == 0) && !decide (3 < bits .andNot .i64 (x : Int) 160)) := by
  have : ∀ x : Fin 256, good x.val = (!(bits .and .u8 (x.val : Int) 128 == 0) && !decide (3 < bits .andNot .i64 (x.val : Int) 160)) := by decide +kernel
  exact this ⟨x, hx⟩
theorem lay_mod {x : Nat} (h : good x = true) : bits .andNot .i64 (x : Int) 160 = ((x % 4 : Nat) : Int) ∧ (bits .and .u8 (x : Int) 32 == 0) = !decide (160 ≤ x) := by
  have hx := (good_back h).2
  have : ∀ x : Fin 256, good x.val = true → bits .andNot .i64 (x.val : Int) 160 = ((x.val % 4 : Nat) : Int) ∧ (bits .and .u8 (x.val : Int) 32 == 0) = !decide (160 ≤ x.val) := by decide +kernel
  exact this ⟨x, hx⟩ h
theorem first_or {l : Nat} (h : l ≤ 3) : bits .or .i64 128 (l : Int) = ((128 + l : Nat) : Int) ∧ bits .or .i64 ((128 + l : Nat) : Int) 32 = ((128 + l + 32 : Nat) : Int) := by
  have : ∀ l : Fin 4, bits .or .i64 128 (l.val : Int) = ((128 + l.val : Nat) : Int) ∧ bits .or .i64 ((128 + l.val : Nat) : Int) 32 = ((128 + l.val + 32 : Nat) : Int) := by decide +kernel
  exact this ⟨l, by omega⟩
end Go.Proofs.YtbadpjgiogghdaaGreatDoor.Pack

