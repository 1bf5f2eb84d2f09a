/-
  The walk of the Go function CrcSums: it returns true at any bytes, of fewer than 2^47, and any three numbers. It changes nothing that was there. Its condition: package errors' variable errorType is as its text lays it.
-/
import Derived.Test.YtifjlknlndndhaaDoorCrcB
import Derived.Test.YtifjlknlndndhaaDoorCrcC
import Derived.Test.YtifjlknlndndhaaDoorRCrc2
import Derived.Test.YtifjlknlndndhaaDoorTold
import Derived.Deep.Cut
namespace Go.Proofs.YtifjlknlndndhaaDoor.Sums
open Go.ChangeShapes Go.WideShapes Go.ChangeAt Go.RowKit Go.Proofs.YtifjlknlndndhaaDoor.CM Go.Proofs.YtifjlknlndndhaaDoor.Mem Go.Proofs.YtifjlknlndndhaaDoor.Crc Go.Proofs.YtifjlknlndndhaaDoor.RCrc
set_option linter.unusedVariables false

/-- what is told as the error of number e -/
def errv (e : Nat) : Value := if e = 0 then .nilIface else .iface 56 (.int .i64 (e : Int))
theorem same_gen (e : Nat) (w : World) (he : e ≤ 100) (hg : w.cell? ⟨0, 0, none⟩ = some (.iface 86 (.agg #[.pointer (some ⟨1, 25, none⟩)]))) :
    Calls Tryd.prog 10 #[errv e, .int .i64 (e : Int)] w fun ev w' => ev = .returned (.bool true) ∧ Below w.heap.size w w' := by
  by_cases h : e = 0
  · subst h
    refine (Told.same_nil 0 w).mono ?_
    rintro ev w' ⟨rfl, rfl⟩
    exact ⟨rfl, Below.refl _ _⟩
  · unfold errv
    rw [if_neg h]
    refine (Told.same_err (e : Int) (e : Int) w (by omega) (by omega) hg).mono ?_
    rintro ev w' ⟨rfl, hb⟩
    exact ⟨by simp, hb⟩
theorem lt_of_cell {w : World} {v : Value} (h : w.cell? ⟨0, 0, none⟩ = some v) : 0 < w.heap.size := by
  rcases Nat.eq_zero_or_pos w.heap.size with h0 | h'
  · simp [World.cell?, h0] at h
  · exact h'

/-- More, of whatever number: what comes, and the error -/
def moreV (s : Int) (L : List Nat) : Int := if wordB s then (go s.toNat L : Nat) else 0
def moreE (s : Int) : Nat := if wordB s then 0 else 1
theorem wordB_yes {s : Int} (h : wordB s = true) : ∃ n : Nat, s = (n : Int) ∧ n < 4294967296 := by
  simp only [wordB, decide_eq_true_eq] at h
  exact ⟨s.toNat, by omega, by omega⟩
theorem wordB_no {s : Int} (h : wordB s = false) : s < 0 ∨ 4294967295 < s := by
  simp only [wordB, decide_eq_false_iff_not] at h
  omega
theorem more_gen (s : Int) (a : Option Addr) (len cap : Nat) (L : List Nat) (w : World) (h : Arg w a len L) :
    Calls Tryd.prog 22 #[.int .i64 s, .slice a len cap] w fun e w' => e = .returned (.tuple #[.int .i64 (moreV s L), errv (moreE s)]) ∧ w' = w := by
  cases hw : wordB s with
  | true =>
    obtain ⟨n, rfl, hn⟩ := wordB_yes hw
    unfold moreV moreE errv
    rw [hw]
    exact more_ok n a len cap L w hn h
  | false =>
    unfold moreV moreE errv
    rw [hw]
    exact more_err s _ w (wordB_no hw)
theorem rmore_gen (s : Int) (a : Option Addr) (len cap : Nat) (L : List Nat) (w : World) (hw : wordB s = true) (h : Arg w a len L) :
    Calls Tryd.prog 20 #[.int .i64 s, .slice a len cap] w fun e w' => e = .returned (.int .i64 (moreV s L)) ∧ w' = w := by
  obtain ⟨n, rfl, hn⟩ := wordB_yes hw
  unfold moreV
  rw [hw]
  exact rmore_calls n a len cap L w hn h

/-- Join, of whatever numbers -/
def joinB (a b n : Int) : Bool := wordB a && wordB b && decide (0 ≤ n) && decide (n ≤ 1000000)
def joinV (a b n : Int) : Int := if joinB a b n then (sts (8 * n.toNat) a.toNat ^^^ b.toNat : Nat) else 0
def joinE (a b n : Int) : Nat := if joinB a b n then 0 else 1
theorem joinB_yes {a b n : Int} (h : joinB a b n = true) : ∃ x y k : Nat, a = (x : Int) ∧ b = (y : Int) ∧ n = (k : Int) ∧ x < 4294967296 ∧ y < 4294967296 ∧ k ≤ 1000000 := by
  simp only [joinB, Bool.and_eq_true, decide_eq_true_eq] at h
  obtain ⟨⟨⟨h1, h2⟩, h3⟩, h4⟩ := h
  obtain ⟨x, hx, hx'⟩ := wordB_yes h1
  obtain ⟨y, hy, hy'⟩ := wordB_yes h2
  exact ⟨x, y, n.toNat, hx, hy, by omega, hx', hy', by omega⟩
theorem joinB_no {a b n : Int} (h : joinB a b n = false) : (a < 0 ∨ 4294967295 < a) ∨ (b < 0 ∨ 4294967295 < b) ∨ (n < 0 ∨ 1000000 < n) := by
  simp only [joinB, wordB, Bool.and_eq_false_iff, decide_eq_false_iff_not] at h
  omega
theorem join_gen (a b n : Int) (w : World) :
    Calls Tryd.prog 24 #[.int .i64 a, .int .i64 b, .int .i64 n] w fun e w' => e = .returned (.tuple #[.int .i64 (joinV a b n), errv (joinE a b n)]) ∧ w' = w := by
  cases hw : joinB a b n with
  | true =>
    obtain ⟨x, y, k, rfl, rfl, rfl, hx, hy, hk⟩ := joinB_yes hw
    unfold joinV joinE errv
    rw [hw]
    exact join_ok x y k w hx hy hk
  | false =>
    unfold joinV joinE errv
    rw [hw]
    exact join_err a b n w (joinB_no hw)
theorem rjoin_gen (a b n : Int) (w : World) (hw : joinB a b n = true) :
    Calls Tryd.prog 23 #[.int .i64 a, .int .i64 b, .int .i64 n] w fun e w' => e = .returned (.int .i64 (joinV a b n)) ∧ w' = w := by
  obtain ⟨x, y, k, rfl, rfl, rfl, hx, hy, hk⟩ := joinB_yes hw
  unfold joinV
  rw [hw]
  exact rjoin_calls x y k w hx hy hk
theorem moreE_le (s : Int) : moreE s ≤ 100 := by unfold moreE; split <;> omega
theorem joinE_le (a b n : Int) : joinE a b n ≤ 100 := by unfold joinE; split <;> omega

end Go.Proofs.YtifjlknlndndhaaDoor.Sums
