/-
  The walk of the Go function RingKeeps: it returns true.
-/
import Derived.Test.YtfehmpdeenpahacKeeps
namespace Go.Proofs.Ytfehmpdeenpahac.Keeps
open Go.ChangeShapes Go.WideShapes Go.ChangeAt Go.RowKit Go.Proofs.Ytfehmpdeenpahac.PM Go.Proofs.Ytfehmpdeenpahac.Mem Go.Proofs.Ytfehmpdeenpahac.Pack Go.Proofs.Ytfehmpdeenpahac.RM Go.Proofs.Ytfehmpdeenpahac.Ring
set_option linter.unusedVariables false

theorem argN (w : World) : Arg w none 0 [] := ⟨Bys.nil _ _, rfl, by omega⟩
/-- the first packet of a ring -/
theorem put_first (b mb : Nat) (W : World) (hR : RingAt W b mb 2 (-1) []) :
    Calls Try.prog 18 #[.pointer (some ⟨b, 0, none⟩), .int .i64 5, .agg #[.int .i64 9, .int .i64 0, .int .i64 0, .int .i64 0, .bool false, .slice none 0 0]] W fun e w' => e = .returned (.tuple #[.bool true, .nilIface]) ∧ RingAt w' b mb 2 5 [(5, ⟨9, 0, 0, 0, false, [], .slice none 0 0⟩)] ∧ Only [b, mb] W w' := by
  refine (put_calls b mb 2 (-1) 5 9 0 0 0 false none 0 0 [] [] W hR (inv_start (by omega) (by omega)) (argN W) (fun _ => ⟨rfl, rfl⟩)).mono ?_
  rintro e w' ⟨rfl, hR', ho⟩
  exact ⟨rfl, hR', ho⟩
theorem get_first (b mb : Nat) (W : World) (hR : RingAt W b mb 2 5 [(5, ⟨9, 0, 0, 0, false, [], .slice none 0 0⟩)]) :
    Calls Try.prog 19 #[.pointer (some ⟨b, 0, none⟩), .int .i64 5] W fun e w' => ∃ a m c, e = .returned (.tuple #[.agg #[.int .i64 9, .int .i64 0, .int .i64 0, .int .i64 0, .bool false, .slice a m c], .nilIface]) ∧ Below W.heap.size W w' := by
  refine (get_calls b mb 2 5 5 _ W hR (by decide)).mono ?_
  rintro e w' ⟨a, m, c, rfl, hA, hb⟩
  exact ⟨a, m, c, rfl, hb⟩

set_option maxHeartbeats 1000000 in
set_option maxRecDepth 100000 in
theorem walk_err (n fr : Int) (vs : Value) (w : World) (h : (n < 1 ∨ 64 < n) ∨ fr < 0 ∨ 1000000 < fr) :
    Calls Try.prog 6 #[.int .i64 n, .int .i64 fr, vs] w fun e w' => e = .returned (.bool true) ∧ Below w.heap.size w w' := by
  have H1 := hidden (fun w => new_ok 2 w (by omega) (by omega))
  have HP := hidden put_first
  have HG := hidden get_first
  have HE := hidden (fun w h => new_err n w h)
  have HO := hidden (fun w h0 h1 => new_ok n w h0 h1)
  have HH := hidden h
  clear h
  go_enter Try.func6, Try.ntmps6
  go_wp2_with fail
  refine (H1.out _).mono ?_
  rintro e w1 ⟨b, mb, rfl, hb1, hb2, hR, hbl⟩
  have HR1 := hidden hR
  have HB1 := hidden hbl
  clear hR hbl
  go_wp2_with fail
  refine (HP.out b mb w1 HR1.out).mono ?_
  rintro e w2 ⟨rfl, hR, ho⟩
  have HR2 := hidden hR
  have HB2 : Hid (Below w.heap.size w w2) := HB1.out.trans (ho.below HB1.out.size (by simp; omega))
  clear hR ho HR1 HB1
  go_wp2_with fail
  refine (HG.out b mb w2 HR2.out).mono ?_
  rintro e w3 ⟨a, m, c, rfl, hb3⟩
  have HB3 : Hid (Below w.heap.size w w3) := HB2.out.trans (hb3.mono HB2.out.size)
  clear hb3 HR2 HB2
  go_wp2_with fail
  have HB4 : Hid (∀ O, Below w.heap.size w (w3.alloc O)) := hidden (fun O => HB3.out.alloc HB3.out.size O)
  by_cases hn : n < 1 ∨ 64 < n
  · refine (HE.out _ hn).mono ?_
    rintro e w4 ⟨rfl, rfl⟩
    by_cases c1 : n < 1
    · clear hn
      go_wp2_with fail
      go_ret
      exact ⟨rfl, HB4.out _⟩
    · have c2 : 64 < n := by omega
      clear hn
      go_wp2_with fail
      go_ret
      exact ⟨by simp, HB4.out _⟩
  · have hf : fr < 0 ∨ 1000000 < fr := by have := HH.out; omega
    refine (HO.out _ (by omega) (by omega)).mono ?_
    rintro e w4 ⟨b', mb', rfl, _, _, _, hb4⟩
    have HB5 : Hid (Below w.heap.size w w4) := (HB4.out _).trans (hb4.mono (HB4.out _).size)
    clear hb4
    by_cases c1 : fr < 0
    · clear hf hn
      go_wp2_with fail
      go_ret
      exact ⟨rfl, HB5.out⟩
    · have c2 : 1000000 < fr := by omega
      clear hf hn
      go_wp2_with fail
      go_ret
      exact ⟨rfl, HB5.out⟩
end Go.Proofs.Ytfehmpdeenpahac.Keeps
