/-
  What the reference's function ReadBack returns of whatever bytes, and what it makes. It changes nothing that was there.
-/
import Derived.Test.YtjhfjkacfnccdabDoorRRBRate
import Derived.Test.YtjhfjkacfnccdabDoorRRBLost
import Derived.Deep.RegionHeld3
import Derived.Deep.AppendLies
namespace Go.Proofs.YtjhfjkacfnccdabDoor.Back
open Go.ChangeShapes Go.WideShapes Go.ChangeAt Go.RowKit Go.Sort Go.Lib Go.Proofs.YtjhfjkacfnccdabDoor.BM Go.Proofs.YtjhfjkacfnccdabDoor.Mem
set_option linter.unusedVariables false

/-- ReadBack of bytes that are not short -/
theorem rrb_two (b o n cap k t : Nat) (r : List Nat) (w : World) (h : Arg w (some ⟨b, o, none⟩) n (k :: t :: r)) (hc : n ≤ cap) (hN : n ≤ 2000000) (hs : rshort (k :: t :: r) = false) :
    Calls Tryd.prog 31 #[.slice (some ⟨b, o, none⟩) n cap] w fun e w' => ∃ (k' t' : Int) (a' : Option Addr) (m c' : Nat) (u' : Int), e = .returned (.tuple #[.agg #[.int .i64 k', .int .i64 t', .slice a' m c', .int .i64 u'], .int .i64 (sfault k t r : Int)]) ∧
      (a' = none → m = 0 ∧ c' = 0) ∧ Below w.heap.size w w' ∧ (sfault k t r ≠ 0 → k' = 0 ∧ t' = 0 ∧ u' = 0 ∧ IArg w' a' m []) ∧ (sfault k t r = 0 → k' = (k : Nat) ∧ t' = t ∧ u' = saidU k r ∧ IArg w' a' m (saidL k r)) := by
  by_cases h1 : k = 1
  · subst h1
    have hq : 4 ≤ r.length ∧ r.length % 4 = 0 := by
      simp only [rshort] at hs
      rw [if_pos (by first | trivial | rfl), Bool.or_eq_false_iff, decide_eq_false_iff_not, decide_eq_false_iff_not] at hs
      omega
    exact rrb_lost b o n cap t r w h hc hq.1 hq.2 hN
  · by_cases h2 : k = 2
    · subst h2
      have hq : 1 ≤ r.length := by
        simp only [rshort] at hs
        rw [if_neg (by decide), if_pos (by first | trivial | rfl), decide_eq_false_iff_not] at hs
        omega
      exact rrb_key b o n cap t r w h hc hq
    · by_cases h3 : k = 3
      · subst h3
        have hq : 4 ≤ r.length := by
          simp only [rshort] at hs
          rw [if_neg (by decide), if_neg (by decide), if_pos (by first | trivial | rfl), decide_eq_false_iff_not] at hs
          omega
        exact rrb_rate b o n cap t r w h hc hq
      · exact rrb_other b o n cap k t r w h hc h1 h2 h3

/-- ReadBack, of whatever bytes -/
theorem rrb_gen (a : Option Addr) (n cap : Nat) (B : List Nat) (w : World) (h : Arg w a n B) (hc : n ≤ cap) (hN : n ≤ 2000000) :
    Calls Tryd.prog 31 #[.slice a n cap] w fun e w' => ∃ (k' t' : Int) (a' : Option Addr) (m c' : Nat) (u' : Int), e = .returned (.tuple #[.agg #[.int .i64 k', .int .i64 t', .slice a' m c', .int .i64 u'], .int .i64 (rfault B : Int)]) ∧ Reads w w' B k' t' a' m c' u' := by
  by_cases hs : rshort B = true
  · have hf : rfault B = 8 := by unfold rfault; rw [if_pos hs]
    refine (rrb_short a n cap B w h hs).mono ?_
    rintro e w' ⟨rfl, hb⟩
    refine ⟨0, 0, none, 0, 0, 0, by rw [hf]; rfl, fun _ => ⟨rfl, rfl⟩, hb, fun _ => ⟨rfl, rfl, rfl, IArg.nil _ _⟩, fun h0 => ?_⟩
    rw [hf] at h0
    omega
  · have hs' : rshort B = false := by simpa using hs
    match B, h, hs' with
    | [], _, h1 => simp [rshort] at h1
    | [_], _, h1 => simp [rshort] at h1
    | k :: t :: r, h, h1 =>
      have hf := rfault_two k t r h1
      obtain ⟨b, o, rfl⟩ := arg_at h (by have := h.2.1; simp at this; omega)
      refine (rrb_two b o n cap k t r w h hc hN h1).mono ?_
      rintro e w' ⟨k', t', a', m, c', u', rfl, hn, hb, h2, h3⟩
      refine ⟨k', t', a', m, c', u', by rw [hf], hn, hb, fun h0 => h2 (by rw [hf] at h0; exact h0), fun h0 => ?_⟩
      rw [hf] at h0
      obtain ⟨e1, e2, e3, e4⟩ := h3 h0
      exact ⟨k, t, r, rfl, h1, h0, e1, e2, e3, e4⟩

end Go.Proofs.YtjhfjkacfnccdabDoor.Back
