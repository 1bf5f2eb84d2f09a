/-
  The walk of the Go function RateSettles: it returns true at any three numbers.
-/
import Derived.Test.YtdoljkiklnaioahRateA
import Derived.LoopTactic
import Derived.Deep.LoopGhost
namespace Go.Proofs.Ytdoljkiklnaioah.Settles
open Go.ChangeShapes Go.WideShapes Go.ChangeAt Go.RowKit Go.Proofs.Ytdoljkiklnaioah.Mem Go.Proofs.Ytdoljkiklnaioah.RT Go.Proofs.Ytdoljkiklnaioah.Rate
set_option linter.unusedVariables false

/-- both Guesses in memory -/
structure SSt (w W : World) (a b : Nat) (r s lo hi : Int) : Prop where
  one : GAt W a r lo hi
  two : GAt W b s lo hi
  ne : a ≠ b
  bel : Below w.heap.size w W
  ha : w.heap.size ≤ a
  hb : w.heap.size ≤ b
theorem one_report (w : World) (a b : Nat) (r s lo hi : Int) (k : Nat) (W : World) (h : SSt w W a b r s lo hi) (hg : Grows r lo hi k) :
    Calls Try.prog 7 #[.pointer (some ⟨a, 0, none⟩), .int .i64 0, .int .i64 100] W fun e w' => ∃ x, e = .returned (.tuple #[.int .i64 x, .nilIface]) ∧ r ≤ x ∧ SSt w w' a b x s lo hi ∧ Grows x lo hi (k + 1) := by
  refine (report_ok a r lo hi 0 100 W h.one hg.inv rfl).mono ?_
  rintro e w' ⟨rfl, h1, h2⟩
  exact ⟨_, rfl, hg.next.2, ⟨h1, h.two.only h2 (by simp; exact fun e => h.ne e.symm), h.ne, h.bel.trans (h2.below h.bel.size (by simp; exact h.ha)), h.ha, h.hb⟩, hg.next.1⟩
theorem two_report (w : World) (a b : Nat) (r s lo hi : Int) (k : Nat) (W : World) (h : SSt w W a b r s lo hi) (hg : Falls s lo hi k) :
    Calls Try.prog 7 #[.pointer (some ⟨b, 0, none⟩), .int .i64 50, .int .i64 50] W fun e w' => ∃ x, e = .returned (.tuple #[.int .i64 x, .nilIface]) ∧ x ≤ s ∧ SSt w w' a b r x lo hi ∧ Falls x lo hi (k + 1) := by
  refine (report_ok b s lo hi 50 50 W h.two hg.inv rfl).mono ?_
  rintro e w' ⟨rfl, h1, h2⟩
  exact ⟨_, rfl, hg.next.2, ⟨h.one.only h2 (by simp; exact h.ne), h1, h.ne, h.bel.trans (h2.below h.bel.size (by simp; exact h.hb)), h.ha, h.hb⟩, hg.next.1⟩
theorem new_err (r lo hi : Int) (w : World) (h : nf r lo hi ≠ 0) : Calls Try.prog 6 #[.int .i64 r, .int .i64 lo, .int .i64 hi] w fun e w' => e = .returned (.tuple #[.pointer none, .iface 35 (.int .i64 (nf r lo hi : Int))]) ∧ w' = w := by
  refine (new_calls r lo hi w).mono ?_
  rintro e w' (⟨p, _⟩ | ⟨_, rfl, rfl⟩)
  · exact absurd p h
  · exact ⟨by rw [errv_pos h], rfl⟩
theorem new_ok (r lo hi : Int) (w : World) (h : nf r lo hi = 0) : Calls Try.prog 6 #[.int .i64 r, .int .i64 lo, .int .i64 hi] w fun e w' => ∃ b, e = .returned (.tuple #[.pointer (some ⟨b, 0, none⟩), .nilIface]) ∧ w.heap.size ≤ b ∧ GAt w' b r lo hi ∧ Below w.heap.size w w' := by
  refine (new_calls r lo hi w).mono ?_
  rintro e w' (⟨_, p⟩ | ⟨p, _⟩)
  · exact p
  · exact absurd h p
set_option maxHeartbeats 2000000 in
set_option maxRecDepth 100000 in
theorem walk_err (r lo hi : Int) (w : World) (h : nf r lo hi ≠ 0) :
    Calls Try.prog 4 #[.int .i64 r, .int .i64 lo, .int .i64 hi] w fun e w' => e = .returned (.bool true) ∧ Below w.heap.size w w' := by
  have HN := hidden (fun W => new_err r lo hi W h)
  generalize nf r lo hi = f at *
  clear h
  go_enter Try.func4, Try.ntmps4
  go_wp2_with fail
  refine (HN.out _).mono ?_
  rintro e w1 ⟨rfl, rfl⟩
  go_wp2_with fail
  refine (HN.out _).mono ?_
  rintro e w2 ⟨rfl, rfl⟩
  go_wp2_with fail
  go_ret
  exact ⟨rfl, Below.refl _ _⟩
set_option maxHeartbeats 4000000 in
set_option maxRecDepth 100000 in
theorem walk_ok (r lo hi : Int) (w : World) (h : nf r lo hi = 0) :
    Calls Try.prog 4 #[.int .i64 r, .int .i64 lo, .int .i64 hi] w fun e w' => e = .returned (.bool true) ∧ Below w.heap.size w w' := by
  have HN := hidden (fun W => new_ok r lo hi W h)
  have HG := hidden (Grows.first (nf_zero h))
  have HF := hidden (Falls.first (nf_zero h))
  clear h
  go_enter Try.func4, Try.ntmps4
  go_wp2_with fail
  refine (HN.out _).mono ?_
  rintro e w1 ⟨a, rfl, ha, hA, hW⟩
  have HA := hidden (show w.heap.size ≤ a ∧ GAt w1 a r lo hi ∧ Below w.heap.size w w1 from ⟨ha, hA, hW⟩)
  clear ha hA hW
  go_wp2_with fail
  refine (HN.out _).mono ?_
  rintro e w2 ⟨b, rfl, hb, hB, hW⟩
  have HS : Hid (SSt w w2 a b r r lo hi) := ⟨HA.out.2.1.below hW, hB, fun e => by have := HA.out.2.1.lt; omega, HA.out.2.2.trans (hW.mono HA.out.2.2.size), HA.out.1, by have := HA.out.2.2.size; omega⟩
  clear hb hB hW HA HN
  go_wp2_with fail
  go_loopg [11, 12] 400 (fun g u v wr => ∃ (k : Nat) (x : Int), k + g = 400 ∧ u = .int .i64 x ∧ v = .int .i64 (k : Int) ∧ Hid (SSt w wr a b x r lo hi) ∧ Hid (Grows x lo hi k))
  case atStart => exact ⟨0, r, by omega, rfl, rfl, HS, HG⟩
  case round =>
    clear HS HG
    obtain ⟨k, x, hk, rfl, rfl, HS, HG⟩ := hrel
    by_cases hj : k < 400
    · have hkz : (k : Int) < 400 := by omega
      go_wp2_with fail
      refine (one_report w a b x r lo hi k _ HS.out HG.out).mono ?_
      rintro e w3 ⟨y, rfl, hy, h1, h2⟩
      have HS1 := hidden h1
      have HG1 := hidden h2
      have d : decide (y < x) = false := by simpa using hy
      clear h1 h2 HS HG
      go_wp2_with fail
      go_roundg (400 - (k + 1))
      case measure => omega
      case rel => exact ⟨k + 1, y, by omega, rfl, by go_num, HS1, HG1⟩
    · have hkz : ¬ (k : Int) < 400 := by omega
      obtain rfl : k = 400 := by omega
      obtain rfl := HG.out.last
      clear HG
      go_wp2_with fail
      go_loopg [11, 15] 60 (fun g u v wr => ∃ (k : Nat) (y : Int), k + g = 60 ∧ u = .int .i64 y ∧ v = .int .i64 (k : Int) ∧ Hid (SSt w wr a b x y lo x) ∧ Hid (Falls y lo x k))
      case atStart => exact ⟨0, r, by omega, rfl, rfl, HS, HF⟩
      case round =>
        clear HS HF
        obtain ⟨k, y, hk, rfl, rfl, HS, HF⟩ := hrel
        by_cases hj : k < 60
        · have hkz : (k : Int) < 60 := by omega
          go_wp2_with fail
          refine (two_report w a b x y lo x k _ HS.out HF.out).mono ?_
          rintro e w3 ⟨z, rfl, hz, h1, h2⟩
          have HS1 := hidden h1
          have HF1 := hidden h2
          have d : decide (y < z) = false := by simpa using hz
          clear h1 h2 HS HF
          go_wp2_with fail
          go_roundg (60 - (k + 1))
          case measure => omega
          case rel => exact ⟨k + 1, z, by omega, rfl, by go_num, HS1, HF1⟩
        · have hkz : ¬ (k : Int) < 60 := by omega
          obtain rfl : k = 60 := by omega
          obtain rfl := HF.out.last
          clear HF
          have C1 := hidden (rate_calls a x y x _ HS.out.one)
          have C2 := hidden (rate_calls b y y x _ HS.out.two)
          go_wp2_with fail
          refine C1.out.mono ?_
          rintro e w4 ⟨rfl, rfl⟩
          go_wp2_with fail
          refine C2.out.mono ?_
          rintro e w5 ⟨rfl, rfl⟩
          go_wp2_with fail
          go_ret
          exact ⟨rfl, HS.out.bel⟩
theorem walk (r lo hi : Int) (w : World) :
    Calls Try.prog 4 #[.int .i64 r, .int .i64 lo, .int .i64 hi] w fun e w' => e = .returned (.bool true) ∧ Below w.heap.size w w' := by
  by_cases h : nf r lo hi = 0
  · exact walk_ok r lo hi w h
  · exact walk_err r lo hi w h
end Go.Proofs.Ytdoljkiklnaioah.Settles
