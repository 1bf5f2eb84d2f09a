/-
  What check, answer, Open, Hear and Tick of package link return, and what they leave in memory.
-/
import Derived.Test.YtfdbfelcokockaiLinkA
namespace Go.Proofs.Ytfdbfelcokockai.Link
open Go.ChangeShapes Go.WideShapes Go.ChangeAt Go.RowKit Go.Proofs.Ytfdbfelcokockai.Mem Go.Proofs.Ytfdbfelcokockai.LK
set_option linter.unusedVariables false

theorem check_shape (a : Option Addr) (n cap : Nat) (w : World) (hn : n ≤ 9223372036854775807) (h : n ≠ 3) :
    Calls Try.prog 13 #[.slice a n cap] w fun e w' => e = .returned (errv 3) ∧ w' = w := by
  have d : ((n : Int) == 3) = false := by simp; omega
  have d1 : (n == 3) = false := by simpa using h
  go_enter Try.func13, Try.ntmps13
  go_wp2_with fail
  go_ret
  exact ⟨rfl, rfl⟩
set_option maxHeartbeats 1000000 in
theorem check_x0 (b o cap : Nat) (x y z : Int) (w : World) (c0 : w.cell? ⟨b, o + 0, none⟩ = some (.int .i64 x)) (c1 : w.cell? ⟨b, o + 1, none⟩ = some (.int .i64 y)) (c2 : w.cell? ⟨b, o + 2, none⟩ = some (.int .i64 z)) (hx : x < 1) :
    Calls Try.prog 13 #[.slice (some ⟨b, o, none⟩) 3 cap] w fun e w' => e = .returned (errv 1) ∧ w' = w := by
  have c00 : w.cell? ⟨b, o, none⟩ = some (.int .i64 x) := c0
  have d445 : decide (x < 1) = true := decide_eq_true (by omega)
  go_enter Try.func13, Try.ntmps13
  go_wp2_with fail
  go_ret
  exact ⟨rfl, rfl⟩
set_option maxHeartbeats 1000000 in
theorem check_x1 (b o cap : Nat) (x y z : Int) (w : World) (c0 : w.cell? ⟨b, o + 0, none⟩ = some (.int .i64 x)) (c1 : w.cell? ⟨b, o + 1, none⟩ = some (.int .i64 y)) (c2 : w.cell? ⟨b, o + 2, none⟩ = some (.int .i64 z)) (hx : 3 < x) :
    Calls Try.prog 13 #[.slice (some ⟨b, o, none⟩) 3 cap] w fun e w' => e = .returned (errv 1) ∧ w' = w := by
  have c00 : w.cell? ⟨b, o, none⟩ = some (.int .i64 x) := c0
  have d445 : decide (x < 1) = false := decide_eq_false (by omega)
  have d512 : decide (3 < x) = true := decide_eq_true (by omega)
  go_enter Try.func13, Try.ntmps13
  go_wp2_with fail
  go_ret
  exact ⟨rfl, rfl⟩
set_option maxHeartbeats 1000000 in
theorem check_y (b o cap : Nat) (x y z : Int) (w : World) (c0 : w.cell? ⟨b, o + 0, none⟩ = some (.int .i64 x)) (c1 : w.cell? ⟨b, o + 1, none⟩ = some (.int .i64 y)) (c2 : w.cell? ⟨b, o + 2, none⟩ = some (.int .i64 z)) (hx0 : 1 ≤ x) (hx1 : x ≤ 3) (hy : y < 1 ∨ 1000000 < y) :
    Calls Try.prog 13 #[.slice (some ⟨b, o, none⟩) 3 cap] w fun e w' => e = .returned (errv 1) ∧ w' = w := by
  have c00 : w.cell? ⟨b, o, none⟩ = some (.int .i64 x) := c0
  have d486 : decide (x < 1) = false := decide_eq_false (by omega)
  have d553 : decide (3 < x) = false := decide_eq_false (by omega)
  have H := hidden (fun W => isRun_no y W hy)
  clear hy
  go_enter Try.func13, Try.ntmps13
  go_wp2_with fail
  refine (H.out _).mono ?_
  rintro e w1 ⟨rfl, rfl⟩
  go_wp2_with fail
  go_ret
  exact ⟨rfl, rfl⟩
set_option maxHeartbeats 1000000 in
theorem check_z0 (b o cap : Nat) (x y z : Int) (w : World) (c0 : w.cell? ⟨b, o + 0, none⟩ = some (.int .i64 x)) (c1 : w.cell? ⟨b, o + 1, none⟩ = some (.int .i64 y)) (c2 : w.cell? ⟨b, o + 2, none⟩ = some (.int .i64 z)) (hx0 : 1 ≤ x) (hx1 : x ≤ 3) (hy : 1 ≤ y ∧ y ≤ 1000000) (hz : z < 0) :
    Calls Try.prog 13 #[.slice (some ⟨b, o, none⟩) 3 cap] w fun e w' => e = .returned (errv 1) ∧ w' = w := by
  have c00 : w.cell? ⟨b, o, none⟩ = some (.int .i64 x) := c0
  have d500 : decide (x < 1) = false := decide_eq_false (by omega)
  have d567 : decide (3 < x) = false := decide_eq_false (by omega)
  have d634 : decide (z < 0) = true := decide_eq_true (by omega)
  have H := hidden (fun W => isRun_yes y W hy.1 hy.2)
  clear hy
  go_enter Try.func13, Try.ntmps13
  go_wp2_with fail
  refine (H.out _).mono ?_
  rintro e w1 ⟨rfl, rfl⟩
  go_wp2_with fail
  go_ret
  exact ⟨rfl, rfl⟩
set_option maxHeartbeats 1000000 in
theorem check_z1 (b o cap : Nat) (x y z : Int) (w : World) (c0 : w.cell? ⟨b, o + 0, none⟩ = some (.int .i64 x)) (c1 : w.cell? ⟨b, o + 1, none⟩ = some (.int .i64 y)) (c2 : w.cell? ⟨b, o + 2, none⟩ = some (.int .i64 z)) (hx0 : 1 ≤ x) (hx1 : x ≤ 3) (hy : 1 ≤ y ∧ y ≤ 1000000) (hz : 1000000 < z) :
    Calls Try.prog 13 #[.slice (some ⟨b, o, none⟩) 3 cap] w fun e w' => e = .returned (errv 1) ∧ w' = w := by
  have c00 : w.cell? ⟨b, o, none⟩ = some (.int .i64 x) := c0
  have d506 : decide (x < 1) = false := decide_eq_false (by omega)
  have d573 : decide (3 < x) = false := decide_eq_false (by omega)
  have d640 : decide (z < 0) = false := decide_eq_false (by omega)
  have d707 : decide (1000000 < z) = true := decide_eq_true (by omega)
  have H := hidden (fun W => isRun_yes y W hy.1 hy.2)
  clear hy
  go_enter Try.func13, Try.ntmps13
  go_wp2_with fail
  refine (H.out _).mono ?_
  rintro e w1 ⟨rfl, rfl⟩
  go_wp2_with fail
  go_ret
  exact ⟨rfl, rfl⟩
set_option maxHeartbeats 1000000 in
theorem check_ok (b o cap : Nat) (x y z : Int) (w : World) (c0 : w.cell? ⟨b, o + 0, none⟩ = some (.int .i64 x)) (c1 : w.cell? ⟨b, o + 1, none⟩ = some (.int .i64 y)) (c2 : w.cell? ⟨b, o + 2, none⟩ = some (.int .i64 z)) (hx0 : 1 ≤ x) (hx1 : x ≤ 3) (hy : 1 ≤ y ∧ y ≤ 1000000) (hz0 : 0 ≤ z) (hz1 : z ≤ 1000000) :
    Calls Try.prog 13 #[.slice (some ⟨b, o, none⟩) 3 cap] w fun e w' => e = .returned (errv 0) ∧ w' = w := by
  have c00 : w.cell? ⟨b, o, none⟩ = some (.int .i64 x) := c0
  have d521 : decide (x < 1) = false := decide_eq_false (by omega)
  have d588 : decide (3 < x) = false := decide_eq_false (by omega)
  have d655 : decide (z < 0) = false := decide_eq_false (by omega)
  have d722 : decide (1000000 < z) = false := decide_eq_false (by omega)
  have H := hidden (fun W => isRun_yes y W hy.1 hy.2)
  clear hy
  go_enter Try.func13, Try.ntmps13
  go_wp2_with fail
  refine (H.out _).mono ?_
  rintro e w1 ⟨rfl, rfl⟩
  go_wp2_with fail
  go_ret
  exact ⟨rfl, rfl⟩
theorem check_calls (a : Option Addr) (n cap : Nat) (L : List Int) (w : World) (h : IArg w a n L) :
    Calls Try.prog 13 #[.slice a n cap] w fun e w' => e = .returned (errv (mf L)) ∧ w' = w := by
  by_cases hn : n = 3
  case neg =>
    have e : mf L = 3 := by unfold mf; rw [if_pos (by rw [h.2.1]; exact hn)]
    rw [e]
    exact check_shape a n cap w h.2.2 hn
  subst hn
  obtain ⟨b, o, rfl, hc⟩ := h.at (by omega)
  have c0 := hc 0 (by omega)
  have c1 := hc 1 (by omega)
  have c2 := hc 2 (by omega)
  have hl := h.2.1
  have e : mf L = if L.getD 0 0 < 1 ∨ 3 < L.getD 0 0 ∨ L.getD 1 0 < 1 ∨ 1000000 < L.getD 1 0 ∨ L.getD 2 0 < 0 ∨ 1000000 < L.getD 2 0 then 1 else 0 := by unfold mf; rw [if_neg (by omega)]
  rw [e]
  clear e
  generalize L.getD 0 0 = x at *
  generalize L.getD 1 0 = y at *
  generalize L.getD 2 0 = z at *
  by_cases q0 : x < 1
  · rw [if_pos (.inl q0)]; exact check_x0 b o cap x y z w c0 c1 c2 q0
  by_cases q1 : 3 < x
  · rw [if_pos (.inr (.inl q1))]; exact check_x1 b o cap x y z w c0 c1 c2 q1
  by_cases q2 : y < 1 ∨ 1000000 < y
  · rw [if_pos (by omega)]; exact check_y b o cap x y z w c0 c1 c2 (by omega) (by omega) q2
  by_cases q3 : z < 0
  · rw [if_pos (by omega)]; exact check_z0 b o cap x y z w c0 c1 c2 (by omega) (by omega) (by omega) q3
  by_cases q4 : 1000000 < z
  · rw [if_pos (by omega)]; exact check_z1 b o cap x y z w c0 c1 c2 (by omega) (by omega) (by omega) q4
  · rw [if_neg (by omega)]; exact check_ok b o cap x y z w c0 c1 c2 (by omega) (by omega) (by omega) (by omega) (by omega)
set_option maxHeartbeats 1000000 in
theorem answer_old (b : Nat) (nw me st ot hd sd k f now : Int) (w : World) (h : L6 w b nw me st ot hd sd) (hf : f < ot) :
    Calls Try.prog 14 #[.pointer (some ⟨b, 0, none⟩), .int .i64 k, .int .i64 f, .int .i64 now] w fun e w' => e = .returned (.slice none 0 0) ∧ w' = w := by
  obtain ⟨c0, c1, c2, c3, c4, c5⟩ := h.cells
  have d0 : decide (f < ot) = true := decide_eq_true hf
  have d1 : (f == ot) = false := by simp; omega
  clear h c0 c1 c2 c4 c5
  go_enter Try.func14, Try.ntmps14
  go_wp2_with fail
  go_ret
  exact ⟨rfl, rfl⟩
set_option maxHeartbeats 1000000 in
theorem answer_alien (b : Nat) (nw me st ot hd sd f now : Int) (w : World) (h : L6 w b nw me st ot hd sd) (hf : ot < f) :
    Calls Try.prog 14 #[.pointer (some ⟨b, 0, none⟩), .int .i64 3, .int .i64 f, .int .i64 now] w fun e w' => e = .returned (.slice none 0 0) ∧ w' = w := by
  obtain ⟨c0, c1, c2, c3, c4, c5⟩ := h.cells
  have d0 : decide (f < ot) = false := decide_eq_false (by omega)
  have d1 : (f == ot) = false := by simp; omega
  have d2 : decide (f = ot) = false := by simp; omega
  clear h c0 c1 c2 c4 c5
  go_enter Try.func14, Try.ntmps14
  go_wp2_with fail
  go_ret
  exact ⟨rfl, rfl⟩
set_option maxHeartbeats 1000000 in
theorem answer_hello (b : Nat) (nw me st ot hd sd f now : Int) (w : World) (h : L6 w b nw me st ot hd sd) (hf : ot ≤ f) :
    Calls Try.prog 14 #[.pointer (some ⟨b, 0, none⟩), .int .i64 1, .int .i64 f, .int .i64 now] w fun e w' => ∃ g, e = .returned (.slice (some ⟨g, 0, none⟩) 3 3) ∧ L6 w' b nw me 2 f now now ∧ Msg w' g 2 me f ∧ Only [b] w w' := by
  obtain ⟨c0, c1, c2, c3, c4, c5⟩ := h.cells
  have f2 := h.free 2
  have f3 := h.free 3
  have f4 := h.free 4
  have HL3 : Hid (L6 (((w.setCell ⟨b, 2, none⟩ (.int .i64 2)).setCell ⟨b, 3, none⟩ (.int .i64 f)).setCell ⟨b, 4, none⟩ (.int .i64 now)) b nw me 2 f now sd) := ((h.set2 2).set3 f).set4 now
  have HO3 : Hid (Only [b] w (((w.setCell ⟨b, 2, none⟩ (.int .i64 2)).setCell ⟨b, 3, none⟩ (.int .i64 f)).setCell ⟨b, 4, none⟩ (.int .i64 now))) := (((Only.refl _ _).setCell (by simp) _).setCell (by simp) _).setCell (by simp) _
  have d0 : decide (f < ot) = false := decide_eq_false (by omega)
  clear h c0 c1 c5
  go_enter Try.func14, Try.ntmps14
  go_wp2_with fail
  refine (say_calls b _ _ _ _ _ _ _ _ _ (by exact HL3.out)).mono ?_
  rintro e w4 ⟨g, rfl, hl, hm, ho⟩
  have HL4 := hidden hl
  have HM4 := hidden hm
  have HO4 := hidden (HO3.out.trans ho)
  clear hl hm ho HL3 HO3
  go_wp2_with fail
  go_ret
  exact ⟨g, rfl, HL4.out, HM4.out, HO4.out⟩
set_option maxHeartbeats 1000000 in
theorem answer_new (b : Nat) (nw me st ot hd sd f now : Int) (w : World) (h : L6 w b nw me st ot hd sd) (hf : ot < f) :
    Calls Try.prog 14 #[.pointer (some ⟨b, 0, none⟩), .int .i64 2, .int .i64 f, .int .i64 now] w fun e w' => ∃ g, e = .returned (.slice (some ⟨g, 0, none⟩) 3 3) ∧ L6 w' b nw me 2 f now now ∧ Msg w' g 3 me f ∧ Only [b] w w' := by
  obtain ⟨c0, c1, c2, c3, c4, c5⟩ := h.cells
  have f2 := h.free 2
  have f3 := h.free 3
  have f4 := h.free 4
  have HL3 : Hid (L6 (((w.setCell ⟨b, 2, none⟩ (.int .i64 2)).setCell ⟨b, 3, none⟩ (.int .i64 f)).setCell ⟨b, 4, none⟩ (.int .i64 now)) b nw me 2 f now sd) := ((h.set2 2).set3 f).set4 now
  have HO3 : Hid (Only [b] w (((w.setCell ⟨b, 2, none⟩ (.int .i64 2)).setCell ⟨b, 3, none⟩ (.int .i64 f)).setCell ⟨b, 4, none⟩ (.int .i64 now))) := (((Only.refl _ _).setCell (by simp) _).setCell (by simp) _).setCell (by simp) _
  have d0 : decide (f < ot) = false := decide_eq_false (by omega)
  have d1 : (f == ot) = false := by simp; omega
  have d2 : decide (f = ot) = false := by simp; omega
  clear h c0 c1 c5
  go_enter Try.func14, Try.ntmps14
  go_wp2_with fail
  refine (say_calls b _ _ _ _ _ _ _ _ _ (by exact HL3.out)).mono ?_
  rintro e w4 ⟨g, rfl, hl, hm, ho⟩
  have HL4 := hidden hl
  have HM4 := hidden hm
  have HO4 := hidden (HO3.out.trans ho)
  clear hl hm ho HL3 HO3
  go_wp2_with fail
  go_ret
  exact ⟨g, rfl, HL4.out, HM4.out, HO4.out⟩
set_option maxHeartbeats 1000000 in
theorem answer_again (b : Nat) (nw me st ot hd sd k f now : Int) (w : World) (h : L6 w b nw me st ot hd sd) (hk : k ≠ 1) (hf : f = ot) :
    Calls Try.prog 14 #[.pointer (some ⟨b, 0, none⟩), .int .i64 k, .int .i64 f, .int .i64 now] w fun e w' => e = .returned (.slice none 0 0) ∧ L6 w' b nw me 2 f now sd ∧ Only [b] w w' := by
  obtain ⟨c0, c1, c2, c3, c4, c5⟩ := h.cells
  have f2 := h.free 2
  have f3 := h.free 3
  have f4 := h.free 4
  have HL3 : Hid (L6 (((w.setCell ⟨b, 2, none⟩ (.int .i64 2)).setCell ⟨b, 3, none⟩ (.int .i64 f)).setCell ⟨b, 4, none⟩ (.int .i64 now)) b nw me 2 f now sd) := ((h.set2 2).set3 f).set4 now
  have HO3 : Hid (Only [b] w (((w.setCell ⟨b, 2, none⟩ (.int .i64 2)).setCell ⟨b, 3, none⟩ (.int .i64 f)).setCell ⟨b, 4, none⟩ (.int .i64 now))) := (((Only.refl _ _).setCell (by simp) _).setCell (by simp) _).setCell (by simp) _
  have d3 : (k == 1) = false := by simpa using hk
  have d4 : decide (k = 1) = false := by simpa using hk
  subst hf
  have d0 : decide (f < f) = false := by simp
  have d1 : (f == f) = true := by simp
  clear h c0 c1 c5 hk
  go_enter Try.func14, Try.ntmps14
  go_wp2_with fail
  all_goals (go_ret; exact ⟨rfl, HL3.out, HO3.out⟩)
/-- what is answered, whatever it is: k from 1 to 3, behind the clock -/
theorem answer_calls (b : Nat) (s : Lk) (k f now : Int) (w : World) (h : LAt w b s) (hn : s.nw = now) (hk0 : 1 ≤ k) (hk1 : k ≤ 3) :
    Calls Try.prog 14 #[.pointer (some ⟨b, 0, none⟩), .int .i64 k, .int .i64 f, .int .i64 now] w fun e w' => ∃ v, e = .returned v ∧ LAt w' b (ans s k f now).1 ∧ Out w' v (ans s k f now).2 ∧ Only [b] w w' := by
  obtain ⟨nw, me, st, ot, hd, sd⟩ := s
  obtain rfl : nw = now := hn
  have h6 : L6 w b nw me st ot hd sd := h
  by_cases q0 : f < ot
  · have e : ans ⟨nw, me, st, ot, hd, sd⟩ k f nw = (⟨nw, me, st, ot, hd, sd⟩, []) := by unfold ans; rw [if_pos (.inl q0)]
    rw [e]
    refine (answer_old b nw me st ot hd sd k f nw w h6 q0).mono ?_
    rintro e w' ⟨rfl, rfl⟩
    exact ⟨_, rfl, h, Out.nil0 _, Only.refl _ _⟩
  by_cases q1 : k = 1
  · subst q1
    have e : ans ⟨nw, me, st, ot, hd, sd⟩ 1 f nw = (⟨nw, me, 2, f, nw, nw⟩, [2, me, f]) := by unfold ans; rw [if_neg (by simp only; omega), if_pos rfl]
    rw [e]
    refine (answer_hello b nw me st ot hd sd f nw w h6 (by omega)).mono ?_
    rintro e w' ⟨g, rfl, hl, hm, ho⟩
    exact ⟨_, rfl, hl, Out.msg hm, ho⟩
  by_cases q2 : f = ot
  · have e : ans ⟨nw, me, st, ot, hd, sd⟩ k f nw = (⟨nw, me, 2, f, nw, sd⟩, []) := by unfold ans; rw [if_neg (by simp only; omega), if_neg q1, if_pos (by simpa using q2)]
    rw [e]
    refine (answer_again b nw me st ot hd sd k f nw w h6 q1 q2).mono ?_
    rintro e w' ⟨rfl, hl, ho⟩
    exact ⟨_, rfl, hl, Out.nil0 _, ho⟩
  by_cases q3 : k = 3
  · subst q3
    have e : ans ⟨nw, me, st, ot, hd, sd⟩ 3 f nw = (⟨nw, me, st, ot, hd, sd⟩, []) := by unfold ans; rw [if_pos (.inr ⟨rfl, q2⟩)]
    rw [e]
    refine (answer_alien b nw me st ot hd sd f nw w h6 (by omega)).mono ?_
    rintro e w' ⟨rfl, rfl⟩
    exact ⟨_, rfl, h, Out.nil0 _, Only.refl _ _⟩
  · obtain rfl : k = 2 := by omega
    have e : ans ⟨nw, me, st, ot, hd, sd⟩ 2 f nw = (⟨nw, me, 2, f, nw, nw⟩, [3, me, f]) := by unfold ans; rw [if_neg (by simp only; omega), if_neg (by omega), if_neg (by simpa using q2)]
    rw [e]
    refine (answer_new b nw me st ot hd sd f nw w h6 (by omega)).mono ?_
    rintro e w' ⟨g, rfl, hl, hm, ho⟩
    exact ⟨_, rfl, hl, Out.msg hm, ho⟩
set_option maxHeartbeats 1000000 in
theorem open_time (b : Nat) (nw now : Int) (w : World) (c0 : w.cell? ⟨b, 0, none⟩ = some (.int .i64 nw)) (ht : tf nw now ≠ 0) :
    Calls Try.prog 5 #[.pointer (some ⟨b, 0, none⟩), .int .i64 now] w fun e w' => e = .returned (.tuple #[.slice none 0 0, errv (tf nw now)]) ∧ Below w.heap.size w w' := by
  have C2 := at_calls nw now w
  rw [if_neg ht] at C2
  have hcm := fun w => cmp_ne (tf nw now) w
  have hgr := fun o w => grd_ne (tf nw now) o w
  rw [decide_eq_false ht] at hcm
  generalize errv (tf nw now) = ev at *
  have HC2 := hidden C2
  clear C2 ht
  go_enter Try.func5, Try.ntmps5
  go_wp2_with fail
  refine HC2.out.mono ?_
  rintro e w2 ⟨rfl, hb⟩
  have HB := hidden (below_alloc hb (.cells #[.int .i64 0] 38))
  clear hb
  go_wp2_with fail
  go_ret2
  exact ⟨rfl, HB.out⟩
set_option maxHeartbeats 1000000 in
theorem hear_time (b : Nat) (nw now : Int) (m : Value) (w : World) (c0 : w.cell? ⟨b, 0, none⟩ = some (.int .i64 nw)) (ht : tf nw now ≠ 0) :
    Calls Try.prog 6 #[.pointer (some ⟨b, 0, none⟩), m, .int .i64 now] w fun e w' => e = .returned (.tuple #[.slice none 0 0, errv (tf nw now)]) ∧ Below w.heap.size w w' := by
  have C2 := at_calls nw now w
  rw [if_neg ht] at C2
  have hcm := fun w => cmp_ne (tf nw now) w
  have hgr := fun o w => grd_ne (tf nw now) o w
  rw [decide_eq_false ht] at hcm
  generalize errv (tf nw now) = ev at *
  have HC2 := hidden C2
  clear C2 ht
  go_enter Try.func6, Try.ntmps6
  go_wp2_with fail
  refine HC2.out.mono ?_
  rintro e w2 ⟨rfl, hb⟩
  have HB := hidden (below_alloc hb (.cells #[.int .i64 0] 38))
  clear hb
  go_wp2_with fail
  go_ret2
  exact ⟨rfl, HB.out⟩
set_option maxHeartbeats 1000000 in
theorem tick_time (b : Nat) (nw now : Int) (w : World) (c0 : w.cell? ⟨b, 0, none⟩ = some (.int .i64 nw)) (ht : tf nw now ≠ 0) :
    Calls Try.prog 9 #[.pointer (some ⟨b, 0, none⟩), .int .i64 now] w fun e w' => e = .returned (.tuple #[.slice none 0 0, errv (tf nw now)]) ∧ Below w.heap.size w w' := by
  have C2 := at_calls nw now w
  rw [if_neg ht] at C2
  have hcm := fun w => cmp_ne (tf nw now) w
  have hgr := fun o w => grd_ne (tf nw now) o w
  rw [decide_eq_false ht] at hcm
  generalize errv (tf nw now) = ev at *
  have HC2 := hidden C2
  clear C2 ht
  go_enter Try.func9, Try.ntmps9
  go_wp2_with fail
  refine HC2.out.mono ?_
  rintro e w2 ⟨rfl, hb⟩
  have HB := hidden (below_alloc hb (.cells #[.int .i64 0] 38))
  clear hb
  go_wp2_with fail
  go_ret2
  exact ⟨rfl, HB.out⟩
set_option maxHeartbeats 1000000 in
theorem open_warm (b : Nat) (nw me st ot hd sd now : Int) (w : World) (h : L6 w b nw me st ot hd sd) (ht : tf nw now = 0) (hs : st = 2) :
    Calls Try.prog 5 #[.pointer (some ⟨b, 0, none⟩), .int .i64 now] w fun e w' => e = .returned (.tuple #[.slice none 0 0, errv 6]) ∧ Below w.heap.size w w' := by
  subst hs
  obtain ⟨j1, j2, j3⟩ := tf_zero ht
  have C2 := at_calls nw now w
  rw [if_pos ht, ht, errv_zero] at C2
  have HC2 := hidden C2
  have c0 := h.cells.1
  have hbw := h.lt
  have HL := hidden h
  clear C2 h ht
  go_enter Try.func5, Try.ntmps5
  go_wp2_with fail
  refine HC2.out.mono ?_
  rintro e w2 ⟨rfl, hb⟩
  have HLw : Hid (L6 w2 b nw me 2 ot hd sd) := HL.out.below hb
  have HBw : Hid (Below w.heap.size w w2) := hb
  have hG : b < w2.heap.size := Nat.lt_of_lt_of_le hbw hb.size
  obtain ⟨k0, k1, k2, k3, k4, k5⟩ := (HLw.out.below (below_alloc (Below.refl _ _) (.cells #[.int .i64 now] 38))).cells
  have f0 := (HLw.out.below (below_alloc (Below.refl _ _) (.cells #[.int .i64 now] 38))).free 0
  have f2 := (HLw.out.below (below_alloc (Below.refl _ _) (.cells #[.int .i64 now] 38))).free 2
  have f3 := (HLw.out.below (below_alloc (Below.refl _ _) (.cells #[.int .i64 now] 38))).free 3
  clear hb c0 hbw HL HC2
  have HB := hidden (below_alloc HBw.out (.cells #[.int .i64 now] 38))
  go_wp2_with fail
  go_ret2
  exact ⟨rfl, HB.out⟩
set_option maxHeartbeats 1000000 in
theorem open_ok (b : Nat) (nw me st ot hd sd now : Int) (w : World) (h : L6 w b nw me st ot hd sd) (ht : tf nw now = 0) (hs : st ≠ 2) :
    Calls Try.prog 5 #[.pointer (some ⟨b, 0, none⟩), .int .i64 now] w fun e w' => ∃ g, e = .returned (.tuple #[.slice (some ⟨g, 0, none⟩) 3 3, .nilIface]) ∧ L6 w' b now me 1 ot hd now ∧ Msg w' g 1 me ot ∧ Only [b] w w' := by
  have d1 : (st == 2) = false := by simpa using hs
  have d2 : decide (st = 2) = false := by simpa using hs
  clear hs
  obtain ⟨j1, j2, j3⟩ := tf_zero ht
  have C2 := at_calls nw now w
  rw [if_pos ht, ht, errv_zero] at C2
  have HC2 := hidden C2
  have c0 := h.cells.1
  have hbw := h.lt
  have HL := hidden h
  clear C2 h ht
  go_enter Try.func5, Try.ntmps5
  go_wp2_with fail
  refine HC2.out.mono ?_
  rintro e w2 ⟨rfl, hb⟩
  have HLw : Hid (L6 w2 b nw me st ot hd sd) := HL.out.below hb
  have HBw : Hid (Below w.heap.size w w2) := hb
  have hG : b < w2.heap.size := Nat.lt_of_lt_of_le hbw hb.size
  obtain ⟨k0, k1, k2, k3, k4, k5⟩ := (HLw.out.below (below_alloc (Below.refl _ _) (.cells #[.int .i64 now] 38))).cells
  have f0 := (HLw.out.below (below_alloc (Below.refl _ _) (.cells #[.int .i64 now] 38))).free 0
  have f2 := (HLw.out.below (below_alloc (Below.refl _ _) (.cells #[.int .i64 now] 38))).free 2
  have f3 := (HLw.out.below (below_alloc (Below.refl _ _) (.cells #[.int .i64 now] 38))).free 3
  clear hb c0 hbw HL HC2
  obtain ⟨u0, u1, u2, u3, u4, u5⟩ := ((HLw.out.set0 now).below (below_alloc (Below.refl _ _) (.cells #[.int .i64 now] 38))).cells
  have v2 := ((HLw.out.set0 now).below (below_alloc (Below.refl _ _) (.cells #[.int .i64 now] 38))).free 2
  have v3 := ((HLw.out.set0 now).below (below_alloc (Below.refl _ _) (.cells #[.int .i64 now] 38))).free 3
  have HL3 : Hid (L6 (((w2.setCell ⟨b, 0, none⟩ (.int .i64 now)).setCell ⟨b, 2, none⟩ (.int .i64 1)).alloc (.cells #[.int .i64 now] 38)) b now me 1 ot hd sd) := ((HLw.out.set0 now).set2 1).below (below_alloc (Below.refl _ _) _)
  have HO3 : Hid (Only [b] w (((w2.setCell ⟨b, 0, none⟩ (.int .i64 now)).setCell ⟨b, 2, none⟩ (.int .i64 1)).alloc (.cells #[.int .i64 now] 38))) := (((Only.of_below HBw.out _).setCell (by simp) _).setCell (by simp) _).alloc _
  go_wp2_with fail
  refine (say_calls b _ _ _ _ _ _ _ _ _ (by exact HL3.out)).mono ?_
  rintro e w4 ⟨g, rfl, hl, hm, ho⟩
  have HL4 := hidden hl
  have HM4 := hidden hm
  have HO4 := hidden (HO3.out.trans ho)
  clear hl hm ho HL3 HO3
  go_wp2_with fail
  go_ret2
  exact ⟨g, rfl, HL4.out, HM4.out, HO4.out⟩
/-- Open, whatever is given -/
theorem open_calls (b : Nat) (s : Lk) (now : Int) (w : World) (h : LAt w b s) :
    Calls Try.prog 5 #[.pointer (some ⟨b, 0, none⟩), .int .i64 now] w fun e w' => ∃ v, e = .returned (.tuple #[v, errv (oF s now)]) ∧ LAt w' b (oR s now).1 ∧ Out w' v (oR s now).2 ∧ Only [b] w w' := by
  by_cases ht : tf s.nw now = 0
  case neg =>
    have e : oF s now = tf s.nw now := by unfold oF; rw [if_pos ht]
    have e2 : oR s now = (s, []) := by unfold oR; rw [if_neg (by rw [e]; exact ht)]
    rw [e, e2]
    refine (open_time b s.nw now w h.cells.1 ht).mono ?_
    rintro e w' ⟨rfl, hb⟩
    exact ⟨_, rfl, h.below hb, Out.nil0 _, Only.of_below hb _⟩
  by_cases hs : s.st = 2
  · have e : oF s now = 6 := by unfold oF; rw [if_neg (by simp [ht]), if_pos hs]
    have e2 : oR s now = (s, []) := by unfold oR; rw [if_neg (by rw [e]; omega)]
    rw [e, e2]
    refine (open_warm b _ _ _ _ _ _ now w h ht hs).mono ?_
    rintro e w' ⟨rfl, hb⟩
    exact ⟨_, rfl, h.below hb, Out.nil0 _, Only.of_below hb _⟩
  · have e : oF s now = 0 := by unfold oF; rw [if_neg (by simp [ht]), if_neg hs]
    have e2 : oR s now = opn s now := by unfold oR; rw [if_pos e]
    rw [e, e2]
    refine (open_ok b _ _ _ _ _ _ now w h ht hs).mono ?_
    rintro e w' ⟨g, rfl, hl, hm, ho⟩
    exact ⟨_, rfl, hl, Out.msg hm, ho⟩
set_option maxHeartbeats 1000000 in
theorem hear_msg (b n cap : Nat) (a : Option Addr) (L : List Int) (nw me st ot hd sd now : Int) (w : World) (h : L6 w b nw me st ot hd sd) (hA : IArg w a n L) (ht : tf nw now = 0) (hm : mf L ≠ 0) :
    Calls Try.prog 6 #[.pointer (some ⟨b, 0, none⟩), .slice a n cap, .int .i64 now] w fun e w' => e = .returned (.tuple #[.slice none 0 0, errv (mf L)]) ∧ Below w.heap.size w w' := by
  have HK : Hid (∀ W, Below w.heap.size w W → Calls Try.prog 13 #[.slice a n cap] W fun e w' => e = .returned (errv (mf L)) ∧ w' = W) := fun W hW => check_calls a n cap L W (hA.below hW)
  have hcm := fun w => cmp_ne (mf L) w
  have hgr := fun o w => grd_ne (mf L) o w
  rw [decide_eq_false hm] at hcm
  generalize errv (mf L) = ev at *
  clear hA hm
  obtain ⟨j1, j2, j3⟩ := tf_zero ht
  have C2 := at_calls nw now w
  rw [if_pos ht, ht, errv_zero] at C2
  have HC2 := hidden C2
  have c0 := h.cells.1
  have hbw := h.lt
  have HL := hidden h
  clear C2 h ht
  go_enter Try.func6, Try.ntmps6
  go_wp2_with fail
  refine HC2.out.mono ?_
  rintro e w2 ⟨rfl, hb⟩
  have HLw : Hid (L6 w2 b nw me st ot hd sd) := HL.out.below hb
  have HBw : Hid (Below w.heap.size w w2) := hb
  have hG : b < w2.heap.size := Nat.lt_of_lt_of_le hbw hb.size
  obtain ⟨k0, k1, k2, k3, k4, k5⟩ := (HLw.out.below (below_alloc (Below.refl _ _) (.cells #[.int .i64 now] 38))).cells
  have f0 := (HLw.out.below (below_alloc (Below.refl _ _) (.cells #[.int .i64 now] 38))).free 0
  have f2 := (HLw.out.below (below_alloc (Below.refl _ _) (.cells #[.int .i64 now] 38))).free 2
  have f3 := (HLw.out.below (below_alloc (Below.refl _ _) (.cells #[.int .i64 now] 38))).free 3
  clear hb c0 hbw HL HC2
  have HB := hidden (below_alloc HBw.out (.cells #[.int .i64 now] 38))
  go_wp2_with fail
  refine (HK.out _ HB.out).mono ?_
  rintro e w3 ⟨rfl, hw⟩
  obtain rfl := hw.symm
  go_wp2_with fail
  go_ret2
  exact ⟨rfl, HB.out⟩
theorem cell_only {w w' : World} {g o b : Nat} {v : Value} (h : w.cell? ⟨g, o, none⟩ = some v) (ho : Only [b] w w') (hg : g < w.heap.size) (hb : g ≠ b) : w'.cell? ⟨g, o, none⟩ = some v := by
  have e := ho.2.2.2.2 g hg (by simpa using hb)
  unfold World.cell? at h ⊢
  simp only [e]
  exact h
set_option maxHeartbeats 2000000 in
theorem hear_deaf (b g o cap : Nat) (k f y : Int) (nw me st ot hd sd now : Int) (w : World) (h : L6 w b nw me st ot hd sd) (hA : IArg w (some ⟨g, o, none⟩) 3 [k, f, y]) (ht : tf nw now = 0) (hm : mf [k, f, y] = 0) (hne : g ≠ b) (hk : k ≠ 1) (hy : y ≠ me) :
    Calls Try.prog 6 #[.pointer (some ⟨b, 0, none⟩), .slice (some ⟨g, o, none⟩) 3 cap, .int .i64 now] w fun e w' => e = .returned (.tuple #[.slice none 0 0, .nilIface]) ∧ L6 w' b now me st ot hd sd ∧ Only [b] w w' := by
  have HK : Hid (∀ W, Below w.heap.size w W → Calls Try.prog 13 #[.slice (some ⟨g, o, none⟩) 3 cap] W fun e w' => e = .returned .nilIface ∧ w' = W) := by
    intro W hW
    have := check_calls (some ⟨g, o, none⟩) 3 cap _ W (hA.below hW)
    rw [hm, errv_zero] at this
    exact this
  obtain ⟨b', o', e', hc⟩ := hA.at (by omega)
  simp only [Option.some.injEq, Addr.mk.injEq, and_true] at e'
  obtain ⟨rfl, rfl⟩ := e'
  have m0 : w.cell? ⟨g, o + 0, none⟩ = some (.int .i64 k) := hc 0 (by omega)
  have m1 : w.cell? ⟨g, o + 1, none⟩ = some (.int .i64 f) := hc 1 (by omega)
  have m2 : w.cell? ⟨g, o + 2, none⟩ = some (.int .i64 y) := hc 2 (by omega)
  have hgb : g ≠ b := hne
  have hgl : g < w.heap.size := World.block_lt_of_cell? w ⟨g, o + 0, none⟩ m0
  have HM : Hid (w.cell? ⟨g, o + 0, none⟩ = some (.int .i64 k) ∧ w.cell? ⟨g, o + 1, none⟩ = some (.int .i64 f) ∧ w.cell? ⟨g, o + 2, none⟩ = some (.int .i64 y)) := ⟨m0, m1, m2⟩
  obtain ⟨_, hk0, hk1, _⟩ := mf_zero hm
  have hk0 : 1 ≤ k := hk0
  have hk1 : k ≤ 3 := hk1
  clear hA hm hc m0 m1 m2
  have d1 : (k == 1) = false := by simpa using hk
  have d2 : decide (k = 1) = false := by simpa using hk
  have d5 : (k != 1) = true := by simpa using hk
  have d6 : (y != me) = true := by simpa using hy
  have d3 : (y == me) = false := by simpa using hy
  have d4 : decide (y = me) = false := by simpa using hy
  obtain ⟨j1, j2, j3⟩ := tf_zero ht
  have C2 := at_calls nw now w
  rw [if_pos ht, ht, errv_zero] at C2
  have HC2 := hidden C2
  have c0 := h.cells.1
  have hbw := h.lt
  have HL := hidden h
  clear C2 h ht
  go_enter Try.func6, Try.ntmps6
  go_wp2_with fail
  refine HC2.out.mono ?_
  rintro e w2 ⟨rfl, hb⟩
  have HLw : Hid (L6 w2 b nw me st ot hd sd) := HL.out.below hb
  have HBw : Hid (Below w.heap.size w w2) := hb
  have hG : b < w2.heap.size := Nat.lt_of_lt_of_le hbw hb.size
  obtain ⟨k0, k1, k2, k3, k4, k5⟩ := (HLw.out.below (below_alloc (Below.refl _ _) (.cells #[.int .i64 now] 38))).cells
  have f0 := (HLw.out.below (below_alloc (Below.refl _ _) (.cells #[.int .i64 now] 38))).free 0
  have f2 := (HLw.out.below (below_alloc (Below.refl _ _) (.cells #[.int .i64 now] 38))).free 2
  have f3 := (HLw.out.below (below_alloc (Below.refl _ _) (.cells #[.int .i64 now] 38))).free 3
  clear hb c0 hbw HL HC2
  have HB := hidden (below_alloc HBw.out (.cells #[.int .i64 now] 38))
  have HL3 : Hid (L6 ((w2.setCell ⟨b, 0, none⟩ (.int .i64 now)).alloc (.cells #[.int .i64 now] 38)) b now me st ot hd sd) := (HLw.out.set0 now).below (below_alloc (Below.refl _ _) _)
  have HO3 : Hid (Only [b] w ((w2.setCell ⟨b, 0, none⟩ (.int .i64 now)).alloc (.cells #[.int .i64 now] 38))) := ((Only.of_below HBw.out _).setCell (by simp) _).alloc _
  go_wp2_with fail
  refine (HK.out _ HB.out).mono ?_
  rintro e w3 ⟨rfl, hw⟩
  obtain rfl := hw.symm
  go_wp2_with fail
  obtain ⟨w5, hw5⟩ : ∃ w5, (w2.setCell ⟨b, 0, none⟩ (.int .i64 now)).alloc (.cells #[.int .i64 now] 38) = w5 := ⟨_, rfl⟩
  rw [hw5] at HL3 HO3 ⊢
  clear hw5 HB HK HLw HBw k0 k1 k2 k3 k4 k5 f0 f2 f3 hG
  have n0 : w5.cell? ⟨g, o, none⟩ = some (.int .i64 k) := cell_only HM.out.1 HO3.out hgl hgb
  have n1 : w5.cell? ⟨g, o + 1, none⟩ = some (.int .i64 f) := cell_only HM.out.2.1 HO3.out hgl hgb
  have n2 : w5.cell? ⟨g, o + 2, none⟩ = some (.int .i64 y) := cell_only HM.out.2.2 HO3.out hgl hgb
  obtain ⟨k0, k1, k2, k3, k4, k5⟩ := HL3.out.cells
  clear k0 k2 k3 k4 k5
  go_quiet (fail)
  go_wp2_with fail
  go_ret2
  exact ⟨rfl, HL3.out.below (below_drewN (Below.refl _ _) _), HO3.out.drewN _⟩
set_option maxHeartbeats 2000000 in
theorem hear_hello (b g o cap : Nat) (k f y : Int) (nw me st ot hd sd now : Int) (w : World) (h : L6 w b nw me st ot hd sd) (hA : IArg w (some ⟨g, o, none⟩) 3 [k, f, y]) (ht : tf nw now = 0) (hm : mf [k, f, y] = 0) (hne : g ≠ b) (hk : k = 1) :
    Calls Try.prog 6 #[.pointer (some ⟨b, 0, none⟩), .slice (some ⟨g, o, none⟩) 3 cap, .int .i64 now] w fun e w' => ∃ v, e = .returned (.tuple #[v, .nilIface]) ∧ LAt w' b (ans ⟨now, me, st, ot, hd, sd⟩ k f now).1 ∧ Out w' v (ans ⟨now, me, st, ot, hd, sd⟩ k f now).2 ∧ Only [b] w w' := by
  have HK : Hid (∀ W, Below w.heap.size w W → Calls Try.prog 13 #[.slice (some ⟨g, o, none⟩) 3 cap] W fun e w' => e = .returned .nilIface ∧ w' = W) := by
    intro W hW
    have := check_calls (some ⟨g, o, none⟩) 3 cap _ W (hA.below hW)
    rw [hm, errv_zero] at this
    exact this
  obtain ⟨b', o', e', hc⟩ := hA.at (by omega)
  simp only [Option.some.injEq, Addr.mk.injEq, and_true] at e'
  obtain ⟨rfl, rfl⟩ := e'
  have m0 : w.cell? ⟨g, o + 0, none⟩ = some (.int .i64 k) := hc 0 (by omega)
  have m1 : w.cell? ⟨g, o + 1, none⟩ = some (.int .i64 f) := hc 1 (by omega)
  have m2 : w.cell? ⟨g, o + 2, none⟩ = some (.int .i64 y) := hc 2 (by omega)
  have hgb : g ≠ b := hne
  have hgl : g < w.heap.size := World.block_lt_of_cell? w ⟨g, o + 0, none⟩ m0
  have HM : Hid (w.cell? ⟨g, o + 0, none⟩ = some (.int .i64 k) ∧ w.cell? ⟨g, o + 1, none⟩ = some (.int .i64 f) ∧ w.cell? ⟨g, o + 2, none⟩ = some (.int .i64 y)) := ⟨m0, m1, m2⟩
  obtain ⟨_, hk0, hk1, _⟩ := mf_zero hm
  have hk0 : 1 ≤ k := hk0
  have hk1 : k ≤ 3 := hk1
  clear hA hm hc m0 m1 m2
  subst hk
  obtain ⟨j1, j2, j3⟩ := tf_zero ht
  have C2 := at_calls nw now w
  rw [if_pos ht, ht, errv_zero] at C2
  have HC2 := hidden C2
  have c0 := h.cells.1
  have hbw := h.lt
  have HL := hidden h
  clear C2 h ht
  go_enter Try.func6, Try.ntmps6
  go_wp2_with fail
  refine HC2.out.mono ?_
  rintro e w2 ⟨rfl, hb⟩
  have HLw : Hid (L6 w2 b nw me st ot hd sd) := HL.out.below hb
  have HBw : Hid (Below w.heap.size w w2) := hb
  have hG : b < w2.heap.size := Nat.lt_of_lt_of_le hbw hb.size
  obtain ⟨k0, k1, k2, k3, k4, k5⟩ := (HLw.out.below (below_alloc (Below.refl _ _) (.cells #[.int .i64 now] 38))).cells
  have f0 := (HLw.out.below (below_alloc (Below.refl _ _) (.cells #[.int .i64 now] 38))).free 0
  have f2 := (HLw.out.below (below_alloc (Below.refl _ _) (.cells #[.int .i64 now] 38))).free 2
  have f3 := (HLw.out.below (below_alloc (Below.refl _ _) (.cells #[.int .i64 now] 38))).free 3
  clear hb c0 hbw HL HC2
  have HB := hidden (below_alloc HBw.out (.cells #[.int .i64 now] 38))
  have HL3 : Hid (L6 ((w2.setCell ⟨b, 0, none⟩ (.int .i64 now)).alloc (.cells #[.int .i64 now] 38)) b now me st ot hd sd) := (HLw.out.set0 now).below (below_alloc (Below.refl _ _) _)
  have HO3 : Hid (Only [b] w ((w2.setCell ⟨b, 0, none⟩ (.int .i64 now)).alloc (.cells #[.int .i64 now] 38))) := ((Only.of_below HBw.out _).setCell (by simp) _).alloc _
  go_wp2_with fail
  refine (HK.out _ HB.out).mono ?_
  rintro e w3 ⟨rfl, hw⟩
  obtain rfl := hw.symm
  go_wp2_with fail
  obtain ⟨w5, hw5⟩ : ∃ w5, (w2.setCell ⟨b, 0, none⟩ (.int .i64 now)).alloc (.cells #[.int .i64 now] 38) = w5 := ⟨_, rfl⟩
  rw [hw5] at HL3 HO3 ⊢
  clear hw5 HB HK HLw HBw k0 k1 k2 k3 k4 k5 f0 f2 f3 hG
  have n0 : w5.cell? ⟨g, o, none⟩ = some (.int .i64 1) := cell_only HM.out.1 HO3.out hgl hgb
  have n1 : w5.cell? ⟨g, o + 1, none⟩ = some (.int .i64 f) := cell_only HM.out.2.1 HO3.out hgl hgb
  have n2 : w5.cell? ⟨g, o + 2, none⟩ = some (.int .i64 y) := cell_only HM.out.2.2 HO3.out hgl hgb
  obtain ⟨k0, k1, k2, k3, k4, k5⟩ := HL3.out.cells
  clear k0 k2 k3 k4 k5
  go_quiet (fail)
  go_wp2_with fail
  refine (answer_calls b ⟨now, me, st, ot, hd, sd⟩ 1 f now _ (by exact HL3.out.below (below_drewN (Below.refl _ _) _)) rfl hk0 hk1).mono ?_
  rintro e w6 ⟨v, rfl, hl, hm, ho⟩
  have HL4 := hidden hl
  have HM4 := hidden hm
  have HO4 := hidden ((HO3.out.drewN _).trans ho)
  clear hl hm ho HL3 HO3
  go_wp2_with fail
  go_ret2
  exact ⟨v, rfl, HL4.out, HM4.out, HO4.out⟩
set_option maxHeartbeats 2000000 in
theorem hear_mine (b g o cap : Nat) (k f y : Int) (nw me st ot hd sd now : Int) (w : World) (h : L6 w b nw me st ot hd sd) (hA : IArg w (some ⟨g, o, none⟩) 3 [k, f, y]) (ht : tf nw now = 0) (hm : mf [k, f, y] = 0) (hne : g ≠ b) (hk : k ≠ 1) (hy : y = me) :
    Calls Try.prog 6 #[.pointer (some ⟨b, 0, none⟩), .slice (some ⟨g, o, none⟩) 3 cap, .int .i64 now] w fun e w' => ∃ v, e = .returned (.tuple #[v, .nilIface]) ∧ LAt w' b (ans ⟨now, me, st, ot, hd, sd⟩ k f now).1 ∧ Out w' v (ans ⟨now, me, st, ot, hd, sd⟩ k f now).2 ∧ Only [b] w w' := by
  have HK : Hid (∀ W, Below w.heap.size w W → Calls Try.prog 13 #[.slice (some ⟨g, o, none⟩) 3 cap] W fun e w' => e = .returned .nilIface ∧ w' = W) := by
    intro W hW
    have := check_calls (some ⟨g, o, none⟩) 3 cap _ W (hA.below hW)
    rw [hm, errv_zero] at this
    exact this
  obtain ⟨b', o', e', hc⟩ := hA.at (by omega)
  simp only [Option.some.injEq, Addr.mk.injEq, and_true] at e'
  obtain ⟨rfl, rfl⟩ := e'
  have m0 : w.cell? ⟨g, o + 0, none⟩ = some (.int .i64 k) := hc 0 (by omega)
  have m1 : w.cell? ⟨g, o + 1, none⟩ = some (.int .i64 f) := hc 1 (by omega)
  have m2 : w.cell? ⟨g, o + 2, none⟩ = some (.int .i64 y) := hc 2 (by omega)
  have hgb : g ≠ b := hne
  have hgl : g < w.heap.size := World.block_lt_of_cell? w ⟨g, o + 0, none⟩ m0
  have HM : Hid (w.cell? ⟨g, o + 0, none⟩ = some (.int .i64 k) ∧ w.cell? ⟨g, o + 1, none⟩ = some (.int .i64 f) ∧ w.cell? ⟨g, o + 2, none⟩ = some (.int .i64 y)) := ⟨m0, m1, m2⟩
  obtain ⟨_, hk0, hk1, _⟩ := mf_zero hm
  have hk0 : 1 ≤ k := hk0
  have hk1 : k ≤ 3 := hk1
  clear hA hm hc m0 m1 m2
  subst hy
  have d1 : (k == 1) = false := by simpa using hk
  have d2 : decide (k = 1) = false := by simpa using hk
  have d5 : (k != 1) = true := by simpa using hk
  obtain ⟨j1, j2, j3⟩ := tf_zero ht
  have C2 := at_calls nw now w
  rw [if_pos ht, ht, errv_zero] at C2
  have HC2 := hidden C2
  have c0 := h.cells.1
  have hbw := h.lt
  have HL := hidden h
  clear C2 h ht
  go_enter Try.func6, Try.ntmps6
  go_wp2_with fail
  refine HC2.out.mono ?_
  rintro e w2 ⟨rfl, hb⟩
  have HLw : Hid (L6 w2 b nw y st ot hd sd) := HL.out.below hb
  have HBw : Hid (Below w.heap.size w w2) := hb
  have hG : b < w2.heap.size := Nat.lt_of_lt_of_le hbw hb.size
  obtain ⟨k0, k1, k2, k3, k4, k5⟩ := (HLw.out.below (below_alloc (Below.refl _ _) (.cells #[.int .i64 now] 38))).cells
  have f0 := (HLw.out.below (below_alloc (Below.refl _ _) (.cells #[.int .i64 now] 38))).free 0
  have f2 := (HLw.out.below (below_alloc (Below.refl _ _) (.cells #[.int .i64 now] 38))).free 2
  have f3 := (HLw.out.below (below_alloc (Below.refl _ _) (.cells #[.int .i64 now] 38))).free 3
  clear hb c0 hbw HL HC2
  have HB := hidden (below_alloc HBw.out (.cells #[.int .i64 now] 38))
  have HL3 : Hid (L6 ((w2.setCell ⟨b, 0, none⟩ (.int .i64 now)).alloc (.cells #[.int .i64 now] 38)) b now y st ot hd sd) := (HLw.out.set0 now).below (below_alloc (Below.refl _ _) _)
  have HO3 : Hid (Only [b] w ((w2.setCell ⟨b, 0, none⟩ (.int .i64 now)).alloc (.cells #[.int .i64 now] 38))) := ((Only.of_below HBw.out _).setCell (by simp) _).alloc _
  go_wp2_with fail
  refine (HK.out _ HB.out).mono ?_
  rintro e w3 ⟨rfl, hw⟩
  obtain rfl := hw.symm
  go_wp2_with fail
  obtain ⟨w5, hw5⟩ : ∃ w5, (w2.setCell ⟨b, 0, none⟩ (.int .i64 now)).alloc (.cells #[.int .i64 now] 38) = w5 := ⟨_, rfl⟩
  rw [hw5] at HL3 HO3 ⊢
  clear hw5 HB HK HLw HBw k0 k1 k2 k3 k4 k5 f0 f2 f3 hG
  have n0 : w5.cell? ⟨g, o, none⟩ = some (.int .i64 k) := cell_only HM.out.1 HO3.out hgl hgb
  have n1 : w5.cell? ⟨g, o + 1, none⟩ = some (.int .i64 f) := cell_only HM.out.2.1 HO3.out hgl hgb
  have n2 : w5.cell? ⟨g, o + 2, none⟩ = some (.int .i64 y) := cell_only HM.out.2.2 HO3.out hgl hgb
  obtain ⟨k0, k1, k2, k3, k4, k5⟩ := HL3.out.cells
  clear k0 k2 k3 k4 k5
  go_quiet (fail)
  go_wp2_with fail
  refine (answer_calls b ⟨now, y, st, ot, hd, sd⟩ k f now _ (by exact HL3.out.below (below_drewN (Below.refl _ _) _)) rfl hk0 hk1).mono ?_
  rintro e w6 ⟨v, rfl, hl, hm, ho⟩
  have HL4 := hidden hl
  have HM4 := hidden hm
  have HO4 := hidden ((HO3.out.drewN _).trans ho)
  clear hl hm ho HL3 HO3
  go_wp2_with fail
  go_ret2
  exact ⟨v, rfl, HL4.out, HM4.out, HO4.out⟩
/-- Hear, whatever is given -/
theorem hear_calls (b n cap : Nat) (a : Option Addr) (s : Lk) (L : List Int) (now : Int) (w : World) (h : LAt w b s) (hA : IArg w a n L) (hab : 0 < n → ∀ ad, a = some ad → ad.block ≠ b) :
    Calls Try.prog 6 #[.pointer (some ⟨b, 0, none⟩), .slice a n cap, .int .i64 now] w fun e w' => ∃ v, e = .returned (.tuple #[v, errv (hF s L now)]) ∧ LAt w' b (hR s L now).1 ∧ Out w' v (hR s L now).2 ∧ Only [b] w w' := by
  by_cases ht : tf s.nw now = 0
  case neg =>
    have e : hF s L now = tf s.nw now := by unfold hF; rw [if_pos ht]
    have e2 : hR s L now = (s, []) := by unfold hR; rw [if_neg (by rw [e]; exact ht)]
    rw [e, e2]
    refine (hear_time b s.nw now _ w h.cells.1 ht).mono ?_
    rintro e w' ⟨rfl, hb⟩
    exact ⟨_, rfl, h.below hb, Out.nil0 _, Only.of_below hb _⟩
  have e : hF s L now = mf L := by unfold hF; rw [if_neg (by simp [ht])]
  by_cases hm : mf L = 0
  case neg =>
    have e2 : hR s L now = (s, []) := by unfold hR; rw [if_neg (by rw [e]; exact hm)]
    rw [e, e2]
    refine (hear_msg b n cap a L _ _ _ _ _ _ now w h hA ht hm).mono ?_
    rintro e w' ⟨rfl, hb⟩
    exact ⟨_, rfl, h.below hb, Out.nil0 _, Only.of_below hb _⟩
  have e2 : hR s L now = her s (L.getD 0 0) (L.getD 1 0) (L.getD 2 0) now := by unfold hR; rw [if_pos (by rw [e]; exact hm)]
  rw [e, e2, hm]
  obtain ⟨hl, _⟩ := mf_zero hm
  obtain ⟨k, f, y, rfl⟩ : ∃ k f y, L = [k, f, y] := by
    match L, hl with
    | [k, f, y], _ => exact ⟨k, f, y, rfl⟩
  obtain rfl : n = 3 := hA.2.1.symm
  obtain ⟨g, o, rfl, _⟩ := hA.at (by omega)
  have hne : g ≠ b := hab (by omega) _ rfl
  have ea : ∀ k f, ans ⟨now, s.me, s.st, s.ot, s.hd, s.sd⟩ k f now = ans s k f now := fun _ _ => rfl
  show Calls Try.prog 6 _ w fun e w' => ∃ v, e = .returned (.tuple #[v, errv 0]) ∧ LAt w' b (her s k f y now).1 ∧ Out w' v (her s k f y now).2 ∧ Only [b] w w'
  by_cases q : k ≠ 1 ∧ y ≠ s.me
  · have e3 : her s k f y now = (⟨now, s.me, s.st, s.ot, s.hd, s.sd⟩, []) := by unfold her; rw [if_pos q]
    rw [e3]
    refine (hear_deaf b g o cap k f y _ _ _ _ _ _ now w h hA ht hm hne q.1 q.2).mono ?_
    rintro e w' ⟨rfl, hl, ho⟩
    exact ⟨_, rfl, hl, Out.nil0 _, ho⟩
  · have e3 : her s k f y now = ans s k f now := by unfold her; rw [if_neg q]
    rw [e3, ← ea]
    by_cases q1 : k = 1
    · exact hear_hello b g o cap k f y _ _ _ _ _ _ now w h hA ht hm hne q1
    · exact hear_mine b g o cap k f y _ _ _ _ _ _ now w h hA ht hm hne q1 (by omega)
set_option maxHeartbeats 2000000 in
theorem tick_cold (b : Nat) (nw me st ot hd sd now : Int) (w : World) (h : L6 w b nw me st ot hd sd) (ht : tf nw now = 0) (hh0 : 0 ≤ hd) (hh1 : hd ≤ nw) (hs0 : 0 ≤ sd) (hs1 : sd ≤ nw) (hs : st = 2) (hq : 30 ≤ now - hd) :
    Calls Try.prog 9 #[.pointer (some ⟨b, 0, none⟩), .int .i64 now] w fun e w' => e = .returned (.tuple #[.slice none 0 0, .nilIface]) ∧ L6 w' b now me 0 0 hd sd ∧ Only [b] w w' := by
  subst hs
  have t30 : decide (30 ≤ now - hd) = true := decide_eq_true hq
  obtain ⟨j1, j2, j3⟩ := tf_zero ht
  have C2 := at_calls nw now w
  rw [if_pos ht, ht, errv_zero] at C2
  have HC2 := hidden C2
  have c0 := h.cells.1
  have hbw := h.lt
  have HL := hidden h
  clear C2 h ht
  go_enter Try.func9, Try.ntmps9
  go_wp2_with fail
  refine HC2.out.mono ?_
  rintro e w2 ⟨rfl, hb⟩
  have HLw : Hid (L6 w2 b nw me 2 ot hd sd) := HL.out.below hb
  have HBw : Hid (Below w.heap.size w w2) := hb
  have hG : b < w2.heap.size := Nat.lt_of_lt_of_le hbw hb.size
  obtain ⟨k0, k1, k2, k3, k4, k5⟩ := (HLw.out.below (below_alloc (Below.refl _ _) (.cells #[.int .i64 now] 38))).cells
  have f0 := (HLw.out.below (below_alloc (Below.refl _ _) (.cells #[.int .i64 now] 38))).free 0
  have f2 := (HLw.out.below (below_alloc (Below.refl _ _) (.cells #[.int .i64 now] 38))).free 2
  have f3 := (HLw.out.below (below_alloc (Below.refl _ _) (.cells #[.int .i64 now] 38))).free 3
  clear hb c0 hbw HL HC2
  obtain ⟨u0, u1, u2, u3, u4, u5⟩ := ((HLw.out.set0 now).below (below_alloc (Below.refl _ _) (.cells #[.int .i64 now] 38))).cells
  have v2 := ((HLw.out.set0 now).below (below_alloc (Below.refl _ _) (.cells #[.int .i64 now] 38))).free 2
  have v3 := ((HLw.out.set0 now).below (below_alloc (Below.refl _ _) (.cells #[.int .i64 now] 38))).free 3
  have vv0 := ((HLw.out.set0 now).below (below_alloc (Below.refl _ _) (.cells #[.int .i64 now] 38))).free 2
  have vc0 := ((HLw.out.set0 now).below (below_alloc (Below.refl _ _) (.cells #[.int .i64 now] 38))).cells.2.2.2.1
  have vv1 := (((HLw.out.set0 now).set2 0).below (below_alloc (Below.refl _ _) (.cells #[.int .i64 now] 38))).free 3
  have vc1 := (((HLw.out.set0 now).set2 0).below (below_alloc (Below.refl _ _) (.cells #[.int .i64 now] 38))).cells.2.2.2.1
  have HL3 : Hid (L6 ((((w2.setCell ⟨b, 0, none⟩ (.int .i64 now)).setCell ⟨b, 2, none⟩ (.int .i64 0)).setCell ⟨b, 3, none⟩ (.int .i64 0)).alloc (.cells #[.int .i64 now] 38)) b now me 0 0 hd sd) := (((HLw.out.set0 now).set2 0).set3 0).below (below_alloc (Below.refl _ _) _)
  have HO3 : Hid (Only [b] w ((((w2.setCell ⟨b, 0, none⟩ (.int .i64 now)).setCell ⟨b, 2, none⟩ (.int .i64 0)).setCell ⟨b, 3, none⟩ (.int .i64 0)).alloc (.cells #[.int .i64 now] 38))) := ((((Only.of_below HBw.out _).setCell (by simp) _).setCell (by simp) _).setCell (by simp) _).alloc _
  go_wp2_with fail
  go_ret2
  exact ⟨rfl, HL3.out, HO3.out⟩
set_option maxHeartbeats 2000000 in
theorem tick_zero (b : Nat) (nw me st ot hd sd now : Int) (w : World) (h : L6 w b nw me st ot hd sd) (ht : tf nw now = 0) (hh0 : 0 ≤ hd) (hh1 : hd ≤ nw) (hs0 : 0 ≤ sd) (hs1 : sd ≤ nw) (hs : st = 0) :
    Calls Try.prog 9 #[.pointer (some ⟨b, 0, none⟩), .int .i64 now] w fun e w' => e = .returned (.tuple #[.slice none 0 0, .nilIface]) ∧ L6 w' b now me 0 ot hd sd ∧ Only [b] w w' := by
  subst hs
  obtain ⟨j1, j2, j3⟩ := tf_zero ht
  have C2 := at_calls nw now w
  rw [if_pos ht, ht, errv_zero] at C2
  have HC2 := hidden C2
  have c0 := h.cells.1
  have hbw := h.lt
  have HL := hidden h
  clear C2 h ht
  go_enter Try.func9, Try.ntmps9
  go_wp2_with fail
  refine HC2.out.mono ?_
  rintro e w2 ⟨rfl, hb⟩
  have HLw : Hid (L6 w2 b nw me 0 ot hd sd) := HL.out.below hb
  have HBw : Hid (Below w.heap.size w w2) := hb
  have hG : b < w2.heap.size := Nat.lt_of_lt_of_le hbw hb.size
  obtain ⟨k0, k1, k2, k3, k4, k5⟩ := (HLw.out.below (below_alloc (Below.refl _ _) (.cells #[.int .i64 now] 38))).cells
  have f0 := (HLw.out.below (below_alloc (Below.refl _ _) (.cells #[.int .i64 now] 38))).free 0
  have f2 := (HLw.out.below (below_alloc (Below.refl _ _) (.cells #[.int .i64 now] 38))).free 2
  have f3 := (HLw.out.below (below_alloc (Below.refl _ _) (.cells #[.int .i64 now] 38))).free 3
  clear hb c0 hbw HL HC2
  obtain ⟨u0, u1, u2, u3, u4, u5⟩ := ((HLw.out.set0 now).below (below_alloc (Below.refl _ _) (.cells #[.int .i64 now] 38))).cells
  have v2 := ((HLw.out.set0 now).below (below_alloc (Below.refl _ _) (.cells #[.int .i64 now] 38))).free 2
  have v3 := ((HLw.out.set0 now).below (below_alloc (Below.refl _ _) (.cells #[.int .i64 now] 38))).free 3
  have HL3 : Hid (L6 ((w2.setCell ⟨b, 0, none⟩ (.int .i64 now)).alloc (.cells #[.int .i64 now] 38)) b now me 0 ot hd sd) := (HLw.out.set0 now).below (below_alloc (Below.refl _ _) _)
  have HO3 : Hid (Only [b] w ((w2.setCell ⟨b, 0, none⟩ (.int .i64 now)).alloc (.cells #[.int .i64 now] 38))) := ((Only.of_below HBw.out _).setCell (by simp) _).alloc _
  go_wp2_with fail
  go_ret2
  exact ⟨rfl, HL3.out, HO3.out⟩
set_option maxHeartbeats 2000000 in
theorem tick_soonW (b : Nat) (nw me st ot hd sd now : Int) (w : World) (h : L6 w b nw me st ot hd sd) (ht : tf nw now = 0) (hh0 : 0 ≤ hd) (hh1 : hd ≤ nw) (hs0 : 0 ≤ sd) (hs1 : sd ≤ nw) (hs : st = 2) (hr : now - hd < 30) (hq : now - sd < 10) :
    Calls Try.prog 9 #[.pointer (some ⟨b, 0, none⟩), .int .i64 now] w fun e w' => e = .returned (.tuple #[.slice none 0 0, .nilIface]) ∧ L6 w' b now me 2 ot hd sd ∧ Only [b] w w' := by
  subst hs
  have t30 : decide (30 ≤ now - hd) = false := decide_eq_false (by omega)
  have t10 : decide (now - sd < 10) = true := decide_eq_true hq
  obtain ⟨j1, j2, j3⟩ := tf_zero ht
  have C2 := at_calls nw now w
  rw [if_pos ht, ht, errv_zero] at C2
  have HC2 := hidden C2
  have c0 := h.cells.1
  have hbw := h.lt
  have HL := hidden h
  clear C2 h ht
  go_enter Try.func9, Try.ntmps9
  go_wp2_with fail
  refine HC2.out.mono ?_
  rintro e w2 ⟨rfl, hb⟩
  have HLw : Hid (L6 w2 b nw me 2 ot hd sd) := HL.out.below hb
  have HBw : Hid (Below w.heap.size w w2) := hb
  have hG : b < w2.heap.size := Nat.lt_of_lt_of_le hbw hb.size
  obtain ⟨k0, k1, k2, k3, k4, k5⟩ := (HLw.out.below (below_alloc (Below.refl _ _) (.cells #[.int .i64 now] 38))).cells
  have f0 := (HLw.out.below (below_alloc (Below.refl _ _) (.cells #[.int .i64 now] 38))).free 0
  have f2 := (HLw.out.below (below_alloc (Below.refl _ _) (.cells #[.int .i64 now] 38))).free 2
  have f3 := (HLw.out.below (below_alloc (Below.refl _ _) (.cells #[.int .i64 now] 38))).free 3
  clear hb c0 hbw HL HC2
  obtain ⟨u0, u1, u2, u3, u4, u5⟩ := ((HLw.out.set0 now).below (below_alloc (Below.refl _ _) (.cells #[.int .i64 now] 38))).cells
  have v2 := ((HLw.out.set0 now).below (below_alloc (Below.refl _ _) (.cells #[.int .i64 now] 38))).free 2
  have v3 := ((HLw.out.set0 now).below (below_alloc (Below.refl _ _) (.cells #[.int .i64 now] 38))).free 3
  have HL3 : Hid (L6 ((w2.setCell ⟨b, 0, none⟩ (.int .i64 now)).alloc (.cells #[.int .i64 now] 38)) b now me 2 ot hd sd) := (HLw.out.set0 now).below (below_alloc (Below.refl _ _) _)
  have HO3 : Hid (Only [b] w ((w2.setCell ⟨b, 0, none⟩ (.int .i64 now)).alloc (.cells #[.int .i64 now] 38))) := ((Only.of_below HBw.out _).setCell (by simp) _).alloc _
  go_wp2_with fail
  go_ret2
  exact ⟨rfl, HL3.out, HO3.out⟩
set_option maxHeartbeats 2000000 in
theorem tick_soonS (b : Nat) (nw me st ot hd sd now : Int) (w : World) (h : L6 w b nw me st ot hd sd) (ht : tf nw now = 0) (hh0 : 0 ≤ hd) (hh1 : hd ≤ nw) (hs0 : 0 ≤ sd) (hs1 : sd ≤ nw) (hs : st = 1) (hq : now - sd < 10) :
    Calls Try.prog 9 #[.pointer (some ⟨b, 0, none⟩), .int .i64 now] w fun e w' => e = .returned (.tuple #[.slice none 0 0, .nilIface]) ∧ L6 w' b now me 1 ot hd sd ∧ Only [b] w w' := by
  subst hs
  have t10 : decide (now - sd < 10) = true := decide_eq_true hq
  obtain ⟨j1, j2, j3⟩ := tf_zero ht
  have C2 := at_calls nw now w
  rw [if_pos ht, ht, errv_zero] at C2
  have HC2 := hidden C2
  have c0 := h.cells.1
  have hbw := h.lt
  have HL := hidden h
  clear C2 h ht
  go_enter Try.func9, Try.ntmps9
  go_wp2_with fail
  refine HC2.out.mono ?_
  rintro e w2 ⟨rfl, hb⟩
  have HLw : Hid (L6 w2 b nw me 1 ot hd sd) := HL.out.below hb
  have HBw : Hid (Below w.heap.size w w2) := hb
  have hG : b < w2.heap.size := Nat.lt_of_lt_of_le hbw hb.size
  obtain ⟨k0, k1, k2, k3, k4, k5⟩ := (HLw.out.below (below_alloc (Below.refl _ _) (.cells #[.int .i64 now] 38))).cells
  have f0 := (HLw.out.below (below_alloc (Below.refl _ _) (.cells #[.int .i64 now] 38))).free 0
  have f2 := (HLw.out.below (below_alloc (Below.refl _ _) (.cells #[.int .i64 now] 38))).free 2
  have f3 := (HLw.out.below (below_alloc (Below.refl _ _) (.cells #[.int .i64 now] 38))).free 3
  clear hb c0 hbw HL HC2
  obtain ⟨u0, u1, u2, u3, u4, u5⟩ := ((HLw.out.set0 now).below (below_alloc (Below.refl _ _) (.cells #[.int .i64 now] 38))).cells
  have v2 := ((HLw.out.set0 now).below (below_alloc (Below.refl _ _) (.cells #[.int .i64 now] 38))).free 2
  have v3 := ((HLw.out.set0 now).below (below_alloc (Below.refl _ _) (.cells #[.int .i64 now] 38))).free 3
  have HL3 : Hid (L6 ((w2.setCell ⟨b, 0, none⟩ (.int .i64 now)).alloc (.cells #[.int .i64 now] 38)) b now me 1 ot hd sd) := (HLw.out.set0 now).below (below_alloc (Below.refl _ _) _)
  have HO3 : Hid (Only [b] w ((w2.setCell ⟨b, 0, none⟩ (.int .i64 now)).alloc (.cells #[.int .i64 now] 38))) := ((Only.of_below HBw.out _).setCell (by simp) _).alloc _
  go_wp2_with fail
  go_ret2
  exact ⟨rfl, HL3.out, HO3.out⟩
set_option maxHeartbeats 2000000 in
theorem tick_saysW (b : Nat) (nw me st ot hd sd now : Int) (w : World) (h : L6 w b nw me st ot hd sd) (ht : tf nw now = 0) (hh0 : 0 ≤ hd) (hh1 : hd ≤ nw) (hs0 : 0 ≤ sd) (hs1 : sd ≤ nw) (hs : st = 2) (hr : now - hd < 30) (hq : 10 ≤ now - sd) :
    Calls Try.prog 9 #[.pointer (some ⟨b, 0, none⟩), .int .i64 now] w fun e w' => ∃ g, e = .returned (.tuple #[.slice (some ⟨g, 0, none⟩) 3 3, .nilIface]) ∧ L6 w' b now me 2 ot hd now ∧ Msg w' g 3 me ot ∧ Only [b] w w' := by
  subst hs
  have t30 : decide (30 ≤ now - hd) = false := decide_eq_false (by omega)
  have t10 : decide (now - sd < 10) = false := decide_eq_false (by omega)
  obtain ⟨j1, j2, j3⟩ := tf_zero ht
  have C2 := at_calls nw now w
  rw [if_pos ht, ht, errv_zero] at C2
  have HC2 := hidden C2
  have c0 := h.cells.1
  have hbw := h.lt
  have HL := hidden h
  clear C2 h ht
  go_enter Try.func9, Try.ntmps9
  go_wp2_with fail
  refine HC2.out.mono ?_
  rintro e w2 ⟨rfl, hb⟩
  have HLw : Hid (L6 w2 b nw me 2 ot hd sd) := HL.out.below hb
  have HBw : Hid (Below w.heap.size w w2) := hb
  have hG : b < w2.heap.size := Nat.lt_of_lt_of_le hbw hb.size
  obtain ⟨k0, k1, k2, k3, k4, k5⟩ := (HLw.out.below (below_alloc (Below.refl _ _) (.cells #[.int .i64 now] 38))).cells
  have f0 := (HLw.out.below (below_alloc (Below.refl _ _) (.cells #[.int .i64 now] 38))).free 0
  have f2 := (HLw.out.below (below_alloc (Below.refl _ _) (.cells #[.int .i64 now] 38))).free 2
  have f3 := (HLw.out.below (below_alloc (Below.refl _ _) (.cells #[.int .i64 now] 38))).free 3
  clear hb c0 hbw HL HC2
  obtain ⟨u0, u1, u2, u3, u4, u5⟩ := ((HLw.out.set0 now).below (below_alloc (Below.refl _ _) (.cells #[.int .i64 now] 38))).cells
  have v2 := ((HLw.out.set0 now).below (below_alloc (Below.refl _ _) (.cells #[.int .i64 now] 38))).free 2
  have v3 := ((HLw.out.set0 now).below (below_alloc (Below.refl _ _) (.cells #[.int .i64 now] 38))).free 3
  have HL3 : Hid (L6 ((w2.setCell ⟨b, 0, none⟩ (.int .i64 now)).alloc (.cells #[.int .i64 now] 38)) b now me 2 ot hd sd) := (HLw.out.set0 now).below (below_alloc (Below.refl _ _) _)
  have HO3 : Hid (Only [b] w ((w2.setCell ⟨b, 0, none⟩ (.int .i64 now)).alloc (.cells #[.int .i64 now] 38))) := ((Only.of_below HBw.out _).setCell (by simp) _).alloc _
  go_wp2_with fail
  refine (say_calls b _ _ _ _ _ _ _ _ _ (by exact HL3.out)).mono ?_
  rintro e w4 ⟨g, rfl, hl, hm, ho⟩
  have HL4 := hidden hl
  have HM4 := hidden hm
  have HO4 := hidden (HO3.out.trans ho)
  clear hl hm ho HL3 HO3
  go_wp2_with fail
  go_ret2
  exact ⟨g, rfl, HL4.out, HM4.out, HO4.out⟩
set_option maxHeartbeats 2000000 in
theorem tick_saysS (b : Nat) (nw me st ot hd sd now : Int) (w : World) (h : L6 w b nw me st ot hd sd) (ht : tf nw now = 0) (hh0 : 0 ≤ hd) (hh1 : hd ≤ nw) (hs0 : 0 ≤ sd) (hs1 : sd ≤ nw) (hs : st = 1) (hq : 10 ≤ now - sd) :
    Calls Try.prog 9 #[.pointer (some ⟨b, 0, none⟩), .int .i64 now] w fun e w' => ∃ g, e = .returned (.tuple #[.slice (some ⟨g, 0, none⟩) 3 3, .nilIface]) ∧ L6 w' b now me 1 ot hd now ∧ Msg w' g 1 me ot ∧ Only [b] w w' := by
  subst hs
  have t10 : decide (now - sd < 10) = false := decide_eq_false (by omega)
  obtain ⟨j1, j2, j3⟩ := tf_zero ht
  have C2 := at_calls nw now w
  rw [if_pos ht, ht, errv_zero] at C2
  have HC2 := hidden C2
  have c0 := h.cells.1
  have hbw := h.lt
  have HL := hidden h
  clear C2 h ht
  go_enter Try.func9, Try.ntmps9
  go_wp2_with fail
  refine HC2.out.mono ?_
  rintro e w2 ⟨rfl, hb⟩
  have HLw : Hid (L6 w2 b nw me 1 ot hd sd) := HL.out.below hb
  have HBw : Hid (Below w.heap.size w w2) := hb
  have hG : b < w2.heap.size := Nat.lt_of_lt_of_le hbw hb.size
  obtain ⟨k0, k1, k2, k3, k4, k5⟩ := (HLw.out.below (below_alloc (Below.refl _ _) (.cells #[.int .i64 now] 38))).cells
  have f0 := (HLw.out.below (below_alloc (Below.refl _ _) (.cells #[.int .i64 now] 38))).free 0
  have f2 := (HLw.out.below (below_alloc (Below.refl _ _) (.cells #[.int .i64 now] 38))).free 2
  have f3 := (HLw.out.below (below_alloc (Below.refl _ _) (.cells #[.int .i64 now] 38))).free 3
  clear hb c0 hbw HL HC2
  obtain ⟨u0, u1, u2, u3, u4, u5⟩ := ((HLw.out.set0 now).below (below_alloc (Below.refl _ _) (.cells #[.int .i64 now] 38))).cells
  have v2 := ((HLw.out.set0 now).below (below_alloc (Below.refl _ _) (.cells #[.int .i64 now] 38))).free 2
  have v3 := ((HLw.out.set0 now).below (below_alloc (Below.refl _ _) (.cells #[.int .i64 now] 38))).free 3
  have HL3 : Hid (L6 ((w2.setCell ⟨b, 0, none⟩ (.int .i64 now)).alloc (.cells #[.int .i64 now] 38)) b now me 1 ot hd sd) := (HLw.out.set0 now).below (below_alloc (Below.refl _ _) _)
  have HO3 : Hid (Only [b] w ((w2.setCell ⟨b, 0, none⟩ (.int .i64 now)).alloc (.cells #[.int .i64 now] 38))) := ((Only.of_below HBw.out _).setCell (by simp) _).alloc _
  go_wp2_with fail
  refine (say_calls b _ _ _ _ _ _ _ _ _ (by exact HL3.out)).mono ?_
  rintro e w4 ⟨g, rfl, hl, hm, ho⟩
  have HL4 := hidden hl
  have HM4 := hidden hm
  have HO4 := hidden (HO3.out.trans ho)
  clear hl hm ho HL3 HO3
  go_wp2_with fail
  go_ret2
  exact ⟨g, rfl, HL4.out, HM4.out, HO4.out⟩
/-- Tick, whatever is given -/
theorem tick_calls (b : Nat) (s : Lk) (now : Int) (w : World) (h : LAt w b s) (hI : Inv s) :
    Calls Try.prog 9 #[.pointer (some ⟨b, 0, none⟩), .int .i64 now] w fun e w' => ∃ v, e = .returned (.tuple #[v, errv (tf s.nw now)]) ∧ LAt w' b (tR s now).1 ∧ Out w' v (tR s now).2 ∧ Only [b] w w' := by
  by_cases ht : tf s.nw now = 0
  case neg =>
    have e2 : tR s now = (s, []) := by unfold tR; rw [if_neg ht]
    rw [e2]
    refine (tick_time b s.nw now w h.cells.1 ht).mono ?_
    rintro e w' ⟨rfl, hb⟩
    exact ⟨_, rfl, h.below hb, Out.nil0 _, Only.of_below hb _⟩
  have e2 : tR s now = tck s now := by unfold tR; rw [if_pos ht]
  rw [e2, ht, errv_zero]
  have x0 := hI.h0; have x1 := hI.h1; have x2 := hI.d0; have x3 := hI.d1; have x4 := hI.s0; have x5 := hI.s1
  by_cases q0 : s.st = 2 ∧ 30 ≤ now - s.hd
  · have e3 : tck s now = (⟨now, s.me, 0, 0, s.hd, s.sd⟩, []) := by unfold tck; rw [if_pos q0]
    rw [e3]
    refine (tick_cold b _ _ _ _ _ _ now w h ht x0 x1 x2 x3 q0.1 q0.2).mono ?_
    rintro e w' ⟨rfl, hl, ho⟩
    exact ⟨_, rfl, hl, Out.nil0 _, ho⟩
  by_cases q1 : s.st = 0 ∨ now - s.sd < 10
  · have e3 : tck s now = (⟨now, s.me, s.st, s.ot, s.hd, s.sd⟩, []) := by unfold tck; rw [if_neg q0, if_pos q1]
    rw [e3]
    rcases (show s.st = 0 ∨ s.st = 1 ∨ s.st = 2 by omega) with q | q | q
    · refine (tick_zero b _ _ _ _ _ _ now w h ht x0 x1 x2 x3 q).mono ?_
      rintro e w' ⟨rfl, hl, ho⟩
      exact ⟨_, rfl, by unfold LAt; rw [q]; exact hl, Out.nil0 _, ho⟩
    · refine (tick_soonS b _ _ _ _ _ _ now w h ht x0 x1 x2 x3 q (by omega)).mono ?_
      rintro e w' ⟨rfl, hl, ho⟩
      exact ⟨_, rfl, by unfold LAt; rw [q]; exact hl, Out.nil0 _, ho⟩
    · refine (tick_soonW b _ _ _ _ _ _ now w h ht x0 x1 x2 x3 q (by omega) (by omega)).mono ?_
      rintro e w' ⟨rfl, hl, ho⟩
      exact ⟨_, rfl, by unfold LAt; rw [q]; exact hl, Out.nil0 _, ho⟩
  by_cases q2 : s.st = 2
  · have e3 : tck s now = (⟨now, s.me, s.st, s.ot, s.hd, now⟩, [3, s.me, s.ot]) := by unfold tck; rw [if_neg q0, if_neg q1, if_pos q2]
    rw [e3]
    refine (tick_saysW b _ _ _ _ _ _ now w h ht x0 x1 x2 x3 q2 (by omega) (by omega)).mono ?_
    rintro e w' ⟨g, rfl, hl, hm, ho⟩
    exact ⟨_, rfl, by unfold LAt; rw [q2]; exact hl, Out.msg hm, ho⟩
  · have e3 : tck s now = (⟨now, s.me, s.st, s.ot, s.hd, now⟩, [1, s.me, s.ot]) := by unfold tck; rw [if_neg q0, if_neg q1, if_neg q2]
    rw [e3]
    have q3 : s.st = 1 := by omega
    refine (tick_saysS b _ _ _ _ _ _ now w h ht x0 x1 x2 x3 q3 (by omega)).mono ?_
    rintro e w' ⟨g, rfl, hl, hm, ho⟩
    exact ⟨_, rfl, by unfold LAt; rw [q3]; exact hl, Out.msg hm, ho⟩
end Go.Proofs.Ytfdbfelcokockai.Link
