/-
  What Hear and Due of package gaps return, whatever they are given, and what they leave in memory: one row each. Their condition: what is lacking is such as it may be.
-/
import Derived.Test.YtpiamlgmadnepaaGreatGapsD
namespace Go.Proofs.YtpiamlgmadnepaaGreat.Gaps
open Go.ChangeShapes Go.WideShapes Go.ChangeAt Go.RowKit Go.Maps Go.Sort Go.Shelf Go.Proofs.YtpiamlgmadnepaaGreat.Mem Go.Proofs.YtpiamlgmadnepaaGreat.GM
set_option linter.unusedVariables false

theorem hear_calls (b mb : Nat) (ag tr nw T y now : Int) (M : Its) (gv : Value) (G : List Int) (w : World) (h : GapsAt w b mb ag tr nw T M gv G) (hI : GM.Inv ag tr nw T M) :
    Calls Tryz.prog 27 #[.pointer (some ⟨b, 0, none⟩), .int .i64 y, .int .i64 now] w fun e w' => e = .returned (.tuple #[.bool (hB nw T M y now), errv (hf nw T M y now)]) ∧
      GapsAt w' b mb ag tr (hN nw T M y now) (hU nw T M y now) (hL nw T M y now) gv G ∧ Only [b, mb] w w' := by
  have same : ∀ w', hf nw T M y now ≠ 0 → Below w.heap.size w w' → hB nw T M y now = false ∧ GapsAt w' b mb ag tr (hN nw T M y now) (hU nw T M y now) (hL nw T M y now) gv G ∧ Only [b, mb] w w' := by
    intro w' h0 hb
    unfold hB hN hU hL
    simp only [h0, decide_false, Bool.false_and, if_false]
    exact ⟨trivial, h.below hb, Only.of_below hb _⟩
  by_cases ht : tf nw now = 0
  case neg =>
    have e1 : hf nw T M y now = tf nw now := by unfold hf; rw [if_pos ht]
    refine (hear_time b nw y now w h.cells.1 ht).mono ?_
    rintro e w' ⟨rfl, hb⟩
    obtain ⟨q1, q2⟩ := same w' (by rw [e1]; exact ht) hb
    exact ⟨by rw [q1, e1], q2⟩
  by_cases hy : y < 0 ∨ 1099511627776 < y
  · have e1 : hf nw T M y now = 1 := by unfold hf; rw [if_neg (by simp [ht]), if_pos hy]
    refine (hear_range b nw y now w h.cells.1 ht hy).mono ?_
    rintro e w' ⟨rfl, hb⟩
    obtain ⟨q1, q2⟩ := same w' (by rw [e1]; omega) hb
    exact ⟨by rw [q1, e1], q2⟩
  by_cases hl : 200 < (M.length : Int) + lo T y
  · have e1 : hf nw T M y now = 4 := by unfold hf; rw [if_neg (by simp [ht]), if_neg hy, if_pos hl]
    refine (hear_full b mb ag tr nw T y now M gv G w h hI ht (by omega) (by omega) hl).mono ?_
    rintro e w' ⟨rfl, hb⟩
    obtain ⟨q1, q2⟩ := same w' (by rw [e1]; omega) hb
    exact ⟨by rw [q1, e1], q2⟩
  have e1 : hf nw T M y now = 0 := by unfold hf; rw [if_neg (by simp [ht]), if_neg hy, if_neg hl]
  have eN : hN nw T M y now = now := by unfold hN; rw [if_pos e1]
  by_cases hT : T < y
  · have eB : hB nw T M y now = true := by unfold hB hx; simp [e1, hT]
    have eU : hU nw T M y now = y := by unfold hU GM.hT; rw [if_pos e1, if_pos hT]
    have eL : hL nw T M y now = M ++ fresh T (lo T y).toNat := by unfold hL hM; rw [if_pos e1, if_pos hT]
    refine (hear_rise b mb ag tr nw T y now M gv G w h hI ht (by omega) (by omega) (by omega) hT).mono ?_
    rintro e w' ⟨rfl, h1, h2⟩
    rw [eB, e1, eN, eU, eL]
    exact ⟨rfl, h1, h2⟩
  · have eB : hB nw T M y now = has M y := by unfold hB hx; simp [e1, hT]
    have eU : hU nw T M y now = T := by unfold hU GM.hT; rw [if_pos e1, if_neg hT]
    have eL : hL nw T M y now = M.filter fun i => decide (i.n ≠ y) := by unfold hL hM; rw [if_pos e1, if_neg hT]
    refine (hear_old b mb ag tr nw T y now M gv G w h hI ht (by omega) (by omega) hT).mono ?_
    rintro e w' ⟨rfl, h1, h2⟩
    rw [eB, e1, eN, eU, eL]
    exact ⟨rfl, h1, h2⟩

theorem due_calls (b mb : Nat) (ag tr nw T now : Int) (M : Its) (gv : Value) (G : List Int) (w : World) (h : GapsAt w b mb ag tr nw T M gv G) (hI : GM.Inv ag tr nw T M) (hG : G.length ≤ 999800) :
    Calls Tryz.prog 29 #[.pointer (some ⟨b, 0, none⟩), .int .i64 now] w fun e w' => ∃ dv, e = .returned (.tuple #[dv, errv (tf nw now)]) ∧ ∃ gv2, GapsAt w' b mb ag tr (dN nw now) T (dL ag tr nw M now) gv2 (G ++ dG ag tr nw M now) ∧
      w'.ownsRow w.heap.size 3 1 dv (dD ag tr nw M now).length (ic (dD ag tr nw M now)) ∧ (∀ j, gv2.ownBlock = some j → (gv.ownBlock = some j ∨ w.heap.size ≤ j) ∧ dv.ownBlock ≠ some j) ∧ Only (blks b mb gv) w w' := by
  by_cases ht : tf nw now = 0
  · have eN : dN nw now = now := by unfold dN; rw [if_pos ht]
    have eL : dL ag tr nw M now = dM ag tr now M := by unfold dL; rw [if_pos ht]
    have eD : dD ag tr nw M now = dueL ag tr now M := by unfold dD; rw [if_pos ht]
    have eG : dG ag tr nw M now = gaveL ag tr now M := by unfold dG; rw [if_pos ht]
    rw [eN, eL, eD, eG, ht, errv_zero]
    exact due_ok b mb ag tr nw T now M gv G w h hI ht (by have := hI.len; omega)
  · have eN : dN nw now = nw := by unfold dN; rw [if_neg ht]
    have eL : dL ag tr nw M now = M := by unfold dL; rw [if_neg ht]
    have eD : dD ag tr nw M now = [] := by unfold dD; rw [if_neg ht]
    have eG : dG ag tr nw M now = [] := by unfold dG; rw [if_neg ht]
    rw [eN, eL, eD, eG, List.append_nil]
    refine (due_time b nw now w h.cells.1 ht).mono ?_
    rintro e w' ⟨rfl, hb⟩
    exact ⟨_, rfl, gv, h.below hb, World.ownsRow_nil _ _ _ _, fun j hj => ⟨.inl hj, by simp [Value.ownBlock]⟩, Only.of_below hb _⟩
end Go.Proofs.YtpiamlgmadnepaaGreat.Gaps

