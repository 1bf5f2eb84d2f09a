/-
  What the functions Long, Seq, far, Ahead and Unwrap of the reference return: Unwrap just what package serial's own does. Their condition: the numbers are those that may be.
-/
import Derived.Test.YtgmnngflbaillaaDoorSerial
namespace Go.Proofs.YtgmnngflbaillaaDoor.Ref
open Go.ChangeShapes Go.WideShapes Go.ChangeAt Go.RowKit
set_option linter.unusedVariables false

theorem ret_int {k : IntKind} {a b : Int} (h : a = b) : Ending.returned (.int k a) = .returned (.int k b) := by rw [h]
theorem ret_bool {a b : Bool} (h : a = b) : Ending.returned (.bool a) = .returned (.bool b) := by rw [h]
theorem far_lt (a b : Int) (w : World) (h : a < b) (h0 : -1000000000000000 ≤ a) (h1 : b ≤ 1000000000000000) :
    Calls Tryd.prog 18 #[.int .i64 a, .int .i64 b] w fun e w' => e = .returned (.int .i64 (b - a)) ∧ w' = w := by
  go_enter Tryd.func18, Tryd.ntmps18
  go_wp2
  go_ret
  exact ⟨rfl, rfl⟩
theorem far_ge (a b : Int) (w : World) (h : b ≤ a) (h0 : -1000000000000000 ≤ b) (h1 : a ≤ 1000000000000000) :
    Calls Tryd.prog 18 #[.int .i64 a, .int .i64 b] w fun e w' => e = .returned (.int .i64 (a - b)) ∧ w' = w := by
  go_enter Tryd.func18, Tryd.ntmps18
  go_wp2
  go_ret
  exact ⟨rfl, rfl⟩
set_option maxHeartbeats 800000 in
theorem runw_A1 (last seq : Int) (w : World) (h0 : 0 ≤ last) (ha : last < 65536) (h4 : 32768 ≤ seq - last % 65536) (h1 : last ≤ 1099511627776) (h2 : 0 ≤ seq) (h3 : seq ≤ 65535) :
    Calls Tryd.prog 7 #[.int .i64 last, .int .i64 seq] w fun e w' => e = .returned (.int .i64 (Ser.unw last seq)) ∧ w' = w := by
  have hm0 : 0 ≤ last % 65536 := by omega
  have hm1 : last % 65536 ≤ 65535 := by omega
  have hm2 : last - last % 65536 = 0 := by omega
  have hm3 : last = last % 65536 := by omega
  have HU : Hid (last - last % 65536 = 0) := hm2
  clear hm2 hm3
  go_enter Tryd.func7, Tryd.ntmps7
  go_wp2_with fail
  refine wp_loop_rounds 4 ?_
  rw [rounds_succ]
  go_wp2_with fail
  rw [rounds_succ]
  go_wp2_with fail
  rw [rounds_succ]
  go_wp2_with fail
  refine (far_ge _ _ _ (by omega) (by omega) (by omega)).mono ?_
  rintro e w' ⟨rfl, rfl⟩
  go_wp2_with fail
  refine (far_ge _ _ _ (by omega) (by omega) (by omega)).mono ?_
  rintro e w' ⟨rfl, rfl⟩
  go_wp2_with fail
  rw [rounds_succ]
  go_wp2_with fail
  go_ret
  exact ⟨ret_int (by unfold Ser.unw Ser.bey; split <;> omega), rfl⟩

set_option maxHeartbeats 800000 in
theorem runw_A2 (last seq : Int) (w : World) (h0 : 0 ≤ last) (ha : last < 65536) (h4 : last % 65536 ≤ seq) (h5 : seq - last % 65536 < 32768) (h1 : last ≤ 1099511627776) (h2 : 0 ≤ seq) (h3 : seq ≤ 65535) :
    Calls Tryd.prog 7 #[.int .i64 last, .int .i64 seq] w fun e w' => e = .returned (.int .i64 (Ser.unw last seq)) ∧ w' = w := by
  have hm0 : 0 ≤ last % 65536 := by omega
  have hm1 : last % 65536 ≤ 65535 := by omega
  have hm2 : last - last % 65536 = 0 := by omega
  have hm3 : last = last % 65536 := by omega
  have HU : Hid (last - last % 65536 = 0) := hm2
  clear hm2 hm3
  go_enter Tryd.func7, Tryd.ntmps7
  go_wp2_with fail
  refine wp_loop_rounds 4 ?_
  rw [rounds_succ]
  go_wp2_with fail
  rw [rounds_succ]
  go_wp2_with fail
  rw [rounds_succ]
  go_wp2_with fail
  refine (far_ge _ _ _ (by omega) (by omega) (by omega)).mono ?_
  rintro e w' ⟨rfl, rfl⟩
  go_wp2_with fail
  refine (far_ge _ _ _ (by omega) (by omega) (by omega)).mono ?_
  rintro e w' ⟨rfl, rfl⟩
  go_wp2_with fail
  rw [rounds_succ]
  go_wp2_with fail
  go_ret
  exact ⟨ret_int (by unfold Ser.unw Ser.bey; split <;> omega), rfl⟩

set_option maxHeartbeats 800000 in
theorem runw_A3 (last seq : Int) (w : World) (h0 : 0 ≤ last) (ha : last < 65536) (h4 : seq < last % 65536) (h5 : last % 65536 - seq ≤ 32768) (h1 : last ≤ 1099511627776) (h2 : 0 ≤ seq) (h3 : seq ≤ 65535) :
    Calls Tryd.prog 7 #[.int .i64 last, .int .i64 seq] w fun e w' => e = .returned (.int .i64 (Ser.unw last seq)) ∧ w' = w := by
  have hm0 : 0 ≤ last % 65536 := by omega
  have hm1 : last % 65536 ≤ 65535 := by omega
  have hm2 : last - last % 65536 = 0 := by omega
  have hm3 : last = last % 65536 := by omega
  have HU : Hid (last - last % 65536 = 0) := hm2
  clear hm2 hm3
  go_enter Tryd.func7, Tryd.ntmps7
  go_wp2_with fail
  refine wp_loop_rounds 4 ?_
  rw [rounds_succ]
  go_wp2_with fail
  rw [rounds_succ]
  go_wp2_with fail
  rw [rounds_succ]
  go_wp2_with fail
  refine (far_ge _ _ _ (by omega) (by omega) (by omega)).mono ?_
  rintro e w' ⟨rfl, rfl⟩
  go_wp2_with fail
  refine (far_lt _ _ _ (by omega) (by omega) (by omega)).mono ?_
  rintro e w' ⟨rfl, rfl⟩
  go_wp2_with fail
  rw [rounds_succ]
  go_wp2_with fail
  go_ret
  exact ⟨ret_int (by unfold Ser.unw Ser.bey; split <;> omega), rfl⟩

set_option maxHeartbeats 800000 in
theorem runw_A4 (last seq : Int) (w : World) (h0 : 0 ≤ last) (ha : last < 65536) (h4 : 32768 < last % 65536 - seq) (h1 : last ≤ 1099511627776) (h2 : 0 ≤ seq) (h3 : seq ≤ 65535) :
    Calls Tryd.prog 7 #[.int .i64 last, .int .i64 seq] w fun e w' => e = .returned (.int .i64 (Ser.unw last seq)) ∧ w' = w := by
  have hm0 : 0 ≤ last % 65536 := by omega
  have hm1 : last % 65536 ≤ 65535 := by omega
  have hm2 : last - last % 65536 = 0 := by omega
  have hm3 : last = last % 65536 := by omega
  have HU : Hid (last - last % 65536 = 0) := hm2
  clear hm2 hm3
  go_enter Tryd.func7, Tryd.ntmps7
  go_wp2_with fail
  refine wp_loop_rounds 4 ?_
  rw [rounds_succ]
  go_wp2_with fail
  rw [rounds_succ]
  go_wp2_with fail
  rw [rounds_succ]
  go_wp2_with fail
  refine (far_ge _ _ _ (by omega) (by omega) (by omega)).mono ?_
  rintro e w' ⟨rfl, rfl⟩
  go_wp2_with fail
  refine (far_lt _ _ _ (by omega) (by omega) (by omega)).mono ?_
  rintro e w' ⟨rfl, rfl⟩
  go_wp2_with fail
  rw [rounds_succ]
  go_wp2_with fail
  go_ret
  exact ⟨ret_int (by unfold Ser.unw Ser.bey; split <;> omega), rfl⟩

set_option maxHeartbeats 800000 in
theorem runw_B1 (last seq : Int) (w : World) (h0 : 65536 ≤ last) (h4 : 32768 ≤ seq - last % 65536) (h1 : last ≤ 1099511627776) (h2 : 0 ≤ seq) (h3 : seq ≤ 65535) :
    Calls Tryd.prog 7 #[.int .i64 last, .int .i64 seq] w fun e w' => e = .returned (.int .i64 (Ser.unw last seq)) ∧ w' = w := by
  have hm0 : 0 ≤ last % 65536 := by omega
  have hm1 : last % 65536 ≤ 65535 := by omega
  have hm2 : 65536 ≤ last - last % 65536 := by omega
  go_enter Tryd.func7, Tryd.ntmps7
  go_wp2_with fail
  refine wp_loop_rounds 4 ?_
  rw [rounds_succ]
  go_wp2_with fail
  rw [rounds_succ]
  go_wp2_with fail
  refine (far_ge _ _ _ (by omega) (by omega) (by omega)).mono ?_
  rintro e w' ⟨rfl, rfl⟩
  go_wp2_with fail
  refine (far_lt _ _ _ (by omega) (by omega) (by omega)).mono ?_
  rintro e w' ⟨rfl, rfl⟩
  go_wp2_with fail
  rw [rounds_succ]
  go_wp2_with fail
  refine (far_ge _ _ _ (by omega) (by omega) (by omega)).mono ?_
  rintro e w' ⟨rfl, rfl⟩
  go_wp2_with fail
  refine (far_lt _ _ _ (by omega) (by omega) (by omega)).mono ?_
  rintro e w' ⟨rfl, rfl⟩
  go_wp2_with fail
  rw [rounds_succ]
  go_wp2_with fail
  go_ret
  exact ⟨ret_int (by unfold Ser.unw Ser.bey; split <;> omega), rfl⟩

set_option maxHeartbeats 800000 in
theorem runw_B2 (last seq : Int) (w : World) (h0 : 65536 ≤ last) (h4 : last % 65536 ≤ seq) (h5 : seq - last % 65536 < 32768) (h1 : last ≤ 1099511627776) (h2 : 0 ≤ seq) (h3 : seq ≤ 65535) :
    Calls Tryd.prog 7 #[.int .i64 last, .int .i64 seq] w fun e w' => e = .returned (.int .i64 (Ser.unw last seq)) ∧ w' = w := by
  have hm0 : 0 ≤ last % 65536 := by omega
  have hm1 : last % 65536 ≤ 65535 := by omega
  have hm2 : 65536 ≤ last - last % 65536 := by omega
  go_enter Tryd.func7, Tryd.ntmps7
  go_wp2_with fail
  refine wp_loop_rounds 4 ?_
  rw [rounds_succ]
  go_wp2_with fail
  rw [rounds_succ]
  go_wp2_with fail
  refine (far_ge _ _ _ (by omega) (by omega) (by omega)).mono ?_
  rintro e w' ⟨rfl, rfl⟩
  go_wp2_with fail
  refine (far_lt _ _ _ (by omega) (by omega) (by omega)).mono ?_
  rintro e w' ⟨rfl, rfl⟩
  go_wp2_with fail
  rw [rounds_succ]
  go_wp2_with fail
  refine (far_ge _ _ _ (by omega) (by omega) (by omega)).mono ?_
  rintro e w' ⟨rfl, rfl⟩
  go_wp2_with fail
  refine (far_ge _ _ _ (by omega) (by omega) (by omega)).mono ?_
  rintro e w' ⟨rfl, rfl⟩
  go_wp2_with fail
  rw [rounds_succ]
  go_wp2_with fail
  go_ret
  exact ⟨ret_int (by unfold Ser.unw Ser.bey; split <;> omega), rfl⟩

set_option maxHeartbeats 800000 in
theorem runw_B3 (last seq : Int) (w : World) (h0 : 65536 ≤ last) (h4 : seq < last % 65536) (h5 : last % 65536 - seq ≤ 32768) (h1 : last ≤ 1099511627776) (h2 : 0 ≤ seq) (h3 : seq ≤ 65535) :
    Calls Tryd.prog 7 #[.int .i64 last, .int .i64 seq] w fun e w' => e = .returned (.int .i64 (Ser.unw last seq)) ∧ w' = w := by
  have hm0 : 0 ≤ last % 65536 := by omega
  have hm1 : last % 65536 ≤ 65535 := by omega
  have hm2 : 65536 ≤ last - last % 65536 := by omega
  go_enter Tryd.func7, Tryd.ntmps7
  go_wp2_with fail
  refine wp_loop_rounds 4 ?_
  rw [rounds_succ]
  go_wp2_with fail
  rw [rounds_succ]
  go_wp2_with fail
  refine (far_lt _ _ _ (by omega) (by omega) (by omega)).mono ?_
  rintro e w' ⟨rfl, rfl⟩
  go_wp2_with fail
  refine (far_lt _ _ _ (by omega) (by omega) (by omega)).mono ?_
  rintro e w' ⟨rfl, rfl⟩
  go_wp2_with fail
  rw [rounds_succ]
  go_wp2_with fail
  refine (far_ge _ _ _ (by omega) (by omega) (by omega)).mono ?_
  rintro e w' ⟨rfl, rfl⟩
  go_wp2_with fail
  refine (far_lt _ _ _ (by omega) (by omega) (by omega)).mono ?_
  rintro e w' ⟨rfl, rfl⟩
  go_wp2_with fail
  rw [rounds_succ]
  go_wp2_with fail
  go_ret
  exact ⟨ret_int (by unfold Ser.unw Ser.bey; split <;> omega), rfl⟩

set_option maxHeartbeats 800000 in
theorem runw_B4 (last seq : Int) (w : World) (h0 : 65536 ≤ last) (h4 : 32768 < last % 65536 - seq) (h1 : last ≤ 1099511627776) (h2 : 0 ≤ seq) (h3 : seq ≤ 65535) :
    Calls Tryd.prog 7 #[.int .i64 last, .int .i64 seq] w fun e w' => e = .returned (.int .i64 (Ser.unw last seq)) ∧ w' = w := by
  have hm0 : 0 ≤ last % 65536 := by omega
  have hm1 : last % 65536 ≤ 65535 := by omega
  have hm2 : 65536 ≤ last - last % 65536 := by omega
  go_enter Tryd.func7, Tryd.ntmps7
  go_wp2_with fail
  refine wp_loop_rounds 4 ?_
  rw [rounds_succ]
  go_wp2_with fail
  rw [rounds_succ]
  go_wp2_with fail
  refine (far_lt _ _ _ (by omega) (by omega) (by omega)).mono ?_
  rintro e w' ⟨rfl, rfl⟩
  go_wp2_with fail
  refine (far_lt _ _ _ (by omega) (by omega) (by omega)).mono ?_
  rintro e w' ⟨rfl, rfl⟩
  go_wp2_with fail
  rw [rounds_succ]
  go_wp2_with fail
  refine (far_ge _ _ _ (by omega) (by omega) (by omega)).mono ?_
  rintro e w' ⟨rfl, rfl⟩
  go_wp2_with fail
  refine (far_lt _ _ _ (by omega) (by omega) (by omega)).mono ?_
  rintro e w' ⟨rfl, rfl⟩
  go_wp2_with fail
  rw [rounds_succ]
  go_wp2_with fail
  go_ret
  exact ⟨ret_int (by unfold Ser.unw Ser.bey; split <;> omega), rfl⟩

theorem runwrap (last seq : Int) (w : World) (h0 : 0 ≤ last) (h1 : last ≤ 1099511627776) (h2 : 0 ≤ seq) (h3 : seq ≤ 65535) :
    Calls Tryd.prog 7 #[.int .i64 last, .int .i64 seq] w fun e w' => e = .returned (.int .i64 (Ser.unw last seq)) ∧ w' = w := by
  by_cases ha : last < 65536
  · by_cases c1 : last % 65536 ≤ seq
    · by_cases c2 : seq - last % 65536 < 32768
      · exact runw_A2 last seq w h0 ha c1 c2 h1 h2 h3
      · exact runw_A1 last seq w h0 ha (by omega) h1 h2 h3
    · by_cases c2 : last % 65536 - seq ≤ 32768
      · exact runw_A3 last seq w h0 ha (by omega) c2 h1 h2 h3
      · exact runw_A4 last seq w h0 ha (by omega) h1 h2 h3
  · by_cases c1 : last % 65536 ≤ seq
    · by_cases c2 : seq - last % 65536 < 32768
      · exact runw_B2 last seq w (by omega) c1 c2 h1 h2 h3
      · exact runw_B1 last seq w (by omega) (by omega) h1 h2 h3
    · by_cases c2 : last % 65536 - seq ≤ 32768
      · exact runw_B3 last seq w (by omega) (by omega) c2 h1 h2 h3
      · exact runw_B4 last seq w (by omega) (by omega) h1 h2 h3

theorem rlong_yes (n : Int) (w : World) (h : 0 ≤ n) (h' : n ≤ 1099511627776) :
    Calls Tryd.prog 5 #[.int .i64 n] w fun e w' => e = .returned (.bool true) ∧ w' = w := by
  go_enter Tryd.func5, Tryd.ntmps5
  go_wp2
  go_ret
  exact ⟨rfl, rfl⟩
theorem rlong_no (n : Int) (w : World) (h : n < 0 ∨ 1099511627776 < n) :
    Calls Tryd.prog 5 #[.int .i64 n] w fun e w' => e = .returned (.bool false) ∧ w' = w := by
  by_cases c : n < 0
  · clear h
    go_enter Tryd.func5, Tryd.ntmps5
    go_wp2
    go_ret
    exact ⟨rfl, rfl⟩
  · have c' : 1099511627776 < n := by omega
    clear h
    go_enter Tryd.func5, Tryd.ntmps5
    go_wp2
    go_ret
    exact ⟨ret_bool (by simp <;> omega), rfl⟩
theorem rseq_yes (n : Int) (w : World) (h : 0 ≤ n) (h' : n ≤ 65535) :
    Calls Tryd.prog 6 #[.int .i64 n] w fun e w' => e = .returned (.bool true) ∧ w' = w := by
  go_enter Tryd.func6, Tryd.ntmps6
  go_wp2
  go_ret
  exact ⟨rfl, rfl⟩
theorem rseq_no (n : Int) (w : World) (h : n < 0 ∨ 65535 < n) :
    Calls Tryd.prog 6 #[.int .i64 n] w fun e w' => e = .returned (.bool false) ∧ w' = w := by
  by_cases c : n < 0
  · clear h
    go_enter Tryd.func6, Tryd.ntmps6
    go_wp2
    go_ret
    exact ⟨rfl, rfl⟩
  · have c' : 65535 < n := by omega
    clear h
    go_enter Tryd.func6, Tryd.ntmps6
    go_wp2
    go_ret
    exact ⟨ret_bool (by simp <;> omega), rfl⟩
theorem tmod_bd (a : Int) : a.tmod 65536 % 65536 = a % 65536 ∧ -65536 < a.tmod 65536 ∧ a.tmod 65536 < 65536 := by
  rw [Int.tmod_eq_emod]
  split <;> simp <;> omega
theorem round_d (a b : Int) : (wrap64 (wrap64 (a.tmod 65536 - b.tmod 65536) + 131072)).tmod 65536 = Ser.bey a b := by
  obtain ⟨h1, h2, h3⟩ := tmod_bd a
  obtain ⟨h4, h5, h6⟩ := tmod_bd b
  generalize a.tmod 65536 = x at *
  generalize b.tmod 65536 = y at *
  have e1 : wrap64 (x - y) = x - y := by unfold wrap64; omega
  rw [e1]
  have e2 : wrap64 (x - y + 131072) = x - y + 131072 := by unfold wrap64; omega
  rw [e2, Int.tmod_eq_emod_of_nonneg (by omega)]
  unfold Ser.bey
  omega
set_option maxHeartbeats 400000 in
theorem rahead (a b : Int) (w : World) :
    Calls Tryd.prog 11 #[.int .i64 a, .int .i64 b] w fun e w' => e = .returned (.bool (Ser.ahB a b)) ∧ w' = w := by
  have hD := round_d a b
  generalize hx : (wrap64 (wrap64 (a.tmod 65536 - b.tmod 65536) + 131072)).tmod 65536 = D at hD
  have hb := Ser.bey_bd a b
  have HX : Hid ((wrap64 (wrap64 (a.tmod 65536 - b.tmod 65536) + 131072)).tmod 65536 = D) := hx
  have ha : Ser.ahB a b = decide (1 ≤ D ∧ D < 32768) := by rw [hD]; rfl
  rw [ha]
  clear ha
  by_cases h1 : 1 ≤ D
  · by_cases h2 : D ≤ 32767
    · rw [show decide (1 ≤ D ∧ D < 32768) = true from decide_eq_true ⟨h1, by omega⟩]
      clear hD HX hb
      go_enter Tryd.func11, Tryd.ntmps11
      go_wp2
      go_ret
      exact ⟨ret_bool (by simp <;> omega), rfl⟩
    · rw [show decide (1 ≤ D ∧ D < 32768) = false from decide_eq_false (by omega)]
      clear hD HX hb
      go_enter Tryd.func11, Tryd.ntmps11
      go_wp2
      go_ret
      exact ⟨ret_bool (by simp <;> omega), rfl⟩
  · rw [show decide (1 ≤ D ∧ D < 32768) = false from decide_eq_false (by omega)]
    clear hD HX hb
    go_enter Tryd.func11, Tryd.ntmps11
    go_wp2
    go_ret
    exact ⟨rfl, rfl⟩
end Go.Proofs.YtgmnngflbaillaaDoor.Ref
