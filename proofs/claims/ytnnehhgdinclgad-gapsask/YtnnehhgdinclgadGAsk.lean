/-
  The walk of the Go function GapsAsk: it returns true at any numbers and any rows of numbers.
-/
import Derived.Test.YtnnehhgdinclgadGAskM
import Derived.Deep.CutRange
import Derived.LoopTactic
namespace Go.Proofs.Ytnnehhgdinclgad.GAsk
open Go.ChangeShapes Go.WideShapes Go.ChangeAt Go.RowKit Go.Proofs.Ytnnehhgdinclgad.Mem Go.Proofs.Ytnnehhgdinclgad.GM Go.Proofs.Ytnnehhgdinclgad.Gaps
set_option linter.unusedVariables false

theorem hear_up {nw T y now : Int} {M : Its} {k : Nat} (ht : tf nw now = 0) (h0 : 0 ≤ y) (h1 : y ≤ 1099511627776) (hk : lo T y = (k : Int)) (hl : M.length + k ≤ 200) (hT : T < y) :
    hf nw T M y now = 0 ∧ hB nw T M y now = true ∧ hU nw T M y now = y ∧ hL nw T M y now = M ++ fresh T k ∧ hN nw T M y now = now := by
  have e : hf nw T M y now = 0 := by unfold hf; rw [if_neg (by simp [ht]), if_neg (by omega), if_neg (by rw [hk]; omega)]
  exact ⟨e, by simp [hB, hx, e, hT], by simp [hU, GM.hT, e, hT], by simp [hL, hM, e, hT, hk], by simp [hN, e]⟩
theorem new32 (w : World) : Calls Try.prog 5 #[.int .i64 3, .int .i64 2] w fun e w' => ∃ b mb, e = .returned (.tuple #[.pointer (some ⟨b, 0, none⟩), .nilIface]) ∧ w.heap.size ≤ b ∧ w.heap.size ≤ mb ∧ GapsAt w' b mb 3 2 0 (-1) [] (.slice none 0 0) [] ∧ Below w.heap.size w w' := new_ok 3 2 w (by decide) (by decide) (by decide) (by decide)
theorem inv5 : GM.Inv 3 2 0 5 [] := ⟨by decide, by decide, by decide, by decide, by decide, by decide, by decide, by decide, by simp, List.Pairwise.nil, by simp⟩
theorem inv7 : GM.Inv 3 2 0 7 [⟨6, 0, 0⟩] := ⟨by decide, by decide, by decide, by decide, by decide, by decide, by decide, by decide, by simp, by simp [Ris], by simp⟩
theorem first5 (b mb : Nat) (w : World) (h : GapsAt w b mb 3 2 0 (-1) [] (.slice none 0 0) []) :
    Calls Try.prog 6 #[.pointer (some ⟨b, 0, none⟩), .int .i64 5, .int .i64 0] w fun e w' => e = .returned (.tuple #[.bool true, .nilIface]) ∧ GapsAt w' b mb 3 2 0 5 [] (.slice none 0 0) [] ∧ Only [b, mb] w w' := by
  obtain ⟨e1, e2, e3, e4, e5⟩ := hear_up (nw := 0) (T := -1) (y := 5) (now := 0) (M := []) (k := 0) (by decide) (by decide) (by decide) (by decide) (by simp) (by decide)
  have := hear_calls b mb 3 2 0 (-1) 5 0 [] (.slice none 0 0) [] w h (inv_start (by decide) (by decide) (by decide) (by decide))
  rw [e1, e2, e3, e4, e5, errv_zero] at this
  exact this
theorem first7 (b mb : Nat) (w : World) (h : GapsAt w b mb 3 2 0 5 [] (.slice none 0 0) []) :
    Calls Try.prog 6 #[.pointer (some ⟨b, 0, none⟩), .int .i64 7, .int .i64 0] w fun e w' => e = .returned (.tuple #[.bool true, .nilIface]) ∧ GapsAt w' b mb 3 2 0 7 [⟨6, 0, 0⟩] (.slice none 0 0) [] ∧ Only [b, mb] w w' := by
  obtain ⟨e1, e2, e3, e4, e5⟩ := hear_up (nw := 0) (T := 5) (y := 7) (now := 0) (M := []) (k := 1) (by decide) (by decide) (by decide) (by decide) (by simp) (by decide)
  have := hear_calls b mb 3 2 0 5 7 0 [] (.slice none 0 0) [] w h inv5
  rw [e1, e2, e3, e4, e5, errv_zero] at this
  exact this
theorem firstDue (b mb : Nat) (w : World) (h : GapsAt w b mb 3 2 0 7 [⟨6, 0, 0⟩] (.slice none 0 0) []) :
    Calls Try.prog 7 #[.pointer (some ⟨b, 0, none⟩), .int .i64 0] w fun e w' => ∃ g cap, e = .returned (.tuple #[.slice (some ⟨g, 0, none⟩) 1 cap, .nilIface]) ∧ w'.cell? ⟨g, 0, none⟩ = some (.int .i64 6) ∧ Only [b, mb] w w' := by
  have hd : dD 3 2 0 [⟨6, 0, 0⟩] 0 = [6] := by
    unfold dD
    rw [if_pos (by decide)]
    simp [dueL, asks, stays, nums]
  refine (due_calls b mb 3 2 0 7 0 [⟨6, 0, 0⟩] (.slice none 0 0) [] w h inv7 (by simp)).mono ?_
  rintro e w' ⟨dv, rfl, gv2, _, hrow, _, ho⟩
  rw [hd] at hrow
  obtain ⟨g, cap, rfl, _, _⟩ := hrow.form (by simp)
  refine ⟨g, cap, rfl, ?_, ho.mono (by intro k hk; simpa [blks, Value.ownBlock] using hk)⟩
  have := hrow.cellAt 0 (by simp)
  simpa [ic] using this

/-- the first part of the law is walked: New, Hear, Hear, Due of its own -/
theorem below_of {w w1 w2 : World} {b mb : Nat} (h : Below w.heap.size w w1) (ho : Only [b, mb] w1 w2) (hb : w.heap.size ≤ b) (hm : w.heap.size ≤ mb) : Below w.heap.size w w2 :=
  h.trans (ho.below h.size (by intro k hk; simp at hk; omega))

set_option maxHeartbeats 2000000 in
set_option maxRecDepth 100000 in
theorem walk_bad (ag tr : Int) (vl vt : Value) (w : World) (h : ag < 1 ∨ 1000000 < ag ∨ tr < 1 ∨ 20 < tr) :
    Calls Try.prog 4 #[.int .i64 ag, .int .i64 tr, vl, vt] w fun e w' => e = .returned (.bool true) ∧ Below w.heap.size w w' := by
  have H1 := hidden new32
  have H2 := hidden first5
  have H3 := hidden first7
  have H4 := hidden firstDue
  have HN := hidden (fun w => new_err ag tr w h)
  rw [errv_pos (by decide)] at HN
  have tail : ∀ c : Bool, c = decide (ag < 1) → True := fun _ _ => trivial
  clear tail
  go_enter Try.func4, Try.ntmps4
  go_wp2_with fail
  refine (H1.out _).mono ?_
  rintro e w1 ⟨b1, mb1, rfl, hb1, hb2, hR, hbl⟩
  have HG := hidden hR
  have HB := hidden hbl
  clear hR hbl
  go_wp2_with fail
  refine (H2.out b1 mb1 w1 HG.out).mono ?_
  rintro e w2 ⟨rfl, hR, ho⟩
  have HG2 := hidden hR
  have HB2 := hidden (below_of HB.out ho hb1 hb2)
  clear hR ho HG HB
  go_wp2_with fail
  refine (H3.out b1 mb1 w2 HG2.out).mono ?_
  rintro e w3 ⟨rfl, hR, ho⟩
  have HG3 := hidden hR
  have HB3 := hidden (below_of HB2.out ho hb1 hb2)
  clear hR ho HG2 HB2
  go_wp2_with fail
  refine (H4.out b1 mb1 w3 HG3.out).mono ?_
  rintro e w4 ⟨g0, cap0, rfl, hc0, ho⟩
  have HB4 := hidden (below_of HB3.out ho hb1 hb2)
  clear ho HG3 HB3
  go_wp2_with fail
  refine (HN.out _).mono ?_
  rintro e w5 ⟨rfl, rfl⟩
  by_cases c : ag < 1
  · clear h
    go_wp2_with fail
    go_ret
    exact ⟨rfl, HB4.out⟩
  by_cases c1 : 1000000 < ag
  · clear h
    go_wp2_with fail
    go_ret
    exact ⟨rfl, HB4.out⟩
  by_cases c2 : tr < 1
  · clear h
    go_wp2_with fail
    go_ret
    exact ⟨rfl, HB4.out⟩
  · have c3 : 20 < tr := by omega
    clear h
    go_wp2_with fail
    go_ret
    exact ⟨rfl, HB4.out⟩

set_option maxHeartbeats 2000000 in
set_option maxRecDepth 100000 in
theorem walk_far (ag tr : Int) (vl vt : Value) (w : World) (h1 : 1000 < ag) (h2 : ag ≤ 1000000) (h3 : 1 ≤ tr) (h4 : tr ≤ 20) :
    Calls Try.prog 4 #[.int .i64 ag, .int .i64 tr, vl, vt] w fun e w' => e = .returned (.bool true) ∧ Below w.heap.size w w' := by
  have H1 := hidden new32
  have H2 := hidden first5
  have H3 := hidden first7
  have H4 := hidden firstDue
  have HN := hidden (fun w => new_ok ag tr w (by omega) h2 h3 h4)
  go_enter Try.func4, Try.ntmps4
  go_wp2_with fail
  refine (H1.out _).mono ?_
  rintro e w1 ⟨b1, mb1, rfl, hb1, hb2, hR, hbl⟩
  have HG := hidden hR
  have HB := hidden hbl
  clear hR hbl
  go_wp2_with fail
  refine (H2.out b1 mb1 w1 HG.out).mono ?_
  rintro e w2 ⟨rfl, hR, ho⟩
  have HG2 := hidden hR
  have HB2 := hidden (below_of HB.out ho hb1 hb2)
  clear hR ho HG HB
  go_wp2_with fail
  refine (H3.out b1 mb1 w2 HG2.out).mono ?_
  rintro e w3 ⟨rfl, hR, ho⟩
  have HG3 := hidden hR
  have HB3 := hidden (below_of HB2.out ho hb1 hb2)
  clear hR ho HG2 HB2
  go_wp2_with fail
  refine (H4.out b1 mb1 w3 HG3.out).mono ?_
  rintro e w4 ⟨g0, cap0, rfl, hc0, ho⟩
  have HB4 := hidden (below_of HB3.out ho hb1 hb2)
  clear ho HG3 HB3
  go_wp2_with fail
  refine (HN.out _).mono ?_
  rintro e w5 ⟨b, mb, rfl, _, _, _, hb5⟩
  have HB5 : Hid (Below w.heap.size w w5) := HB4.out.trans (hb5.mono HB4.out.size)
  clear hb5
  go_wp2_with fail
  go_ret
  exact ⟨rfl, HB5.out⟩
end Go.Proofs.Ytnnehhgdinclgad.GAsk
