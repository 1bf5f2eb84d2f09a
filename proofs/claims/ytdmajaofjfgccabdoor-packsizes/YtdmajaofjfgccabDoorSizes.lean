/-
  The walk of the Go function PackSizes: it returns true at any packet and any number. It changes nothing that was there. Its condition: package errors' variable errorType is as its text lays it.
-/
import Derived.Test.YtdmajaofjfgccabDoorPackG
import Derived.Test.YtdmajaofjfgccabDoorTold
namespace Go.Proofs.YtdmajaofjfgccabDoor.Sizes
open Go.ChangeShapes Go.WideShapes Go.ChangeAt Go.RowKit Go.Proofs.YtdmajaofjfgccabDoor.PM Go.Proofs.YtdmajaofjfgccabDoor.Mem Go.Proofs.YtdmajaofjfgccabDoor.Pack
set_option linter.unusedVariables false

theorem lt_of_cell {w : World} {v : Value} (h : w.cell? ⟨0, 0, none⟩ = some v) : 0 < w.heap.size := by
  rcases Nat.eq_zero_or_pos w.heap.size with h0 | h'
  · simp [World.cell?, h0] at h
  · exact h'
theorem same_is (e : Nat) (w : World) (he : e ≤ 100) (h0 : e ≠ 0) (hg : w.cell? ⟨0, 0, none⟩ = some (.iface 81 (.agg #[.pointer (some ⟨1, 25, none⟩)]))) :
    Calls Tryd.prog 11 #[.iface 56 (.int .i64 (e : Int)), .int .i64 (e : Int)] w fun ev w' => ev = .returned (.bool true) ∧ Below w.heap.size w w' := by
  refine (Told.same_err (e : Int) (e : Int) w (by omega) (by omega) hg).mono ?_
  rintro ev w' ⟨rfl, hb⟩
  exact ⟨by simp, hb⟩

theorem wrap_small (q : Nat) (h : q ≤ 1000) : wrap64 (q : Int) = (q : Int) := by unfold wrap64; omega
theorem below_drew {w w' : World} (h : Below w.drew.heap.size w.drew w') : Below w.heap.size w w' := (Below.refl _ _).drew.trans h

set_option maxHeartbeats 600000 in
set_option maxRecDepth 100000 in
theorem walk_bad (s t l v : Int) (st : Bool) (a : Option Addr) (n cap : Nat) (size : Int) (w : World) (hf : fault s t l v n ≠ 0) :
    Calls Tryd.prog 5 #[.agg #[.int .i64 s, .int .i64 t, .int .i64 l, .int .i64 v, .bool st, .slice a n cap], .int .i64 size] w fun e w' => e = .returned (.bool true) ∧ Below w.heap.size w w' := by
  have C := fun w => check_calls s t l v st a n cap w
  have D := fun w => encode_bad s t l v st a n cap w hf
  generalize fault s t l v n = f at *
  rw [errv_pos hf] at C
  simp only [errv_pos hf] at D
  have HC := hidden C
  have HD := hidden D
  clear C D
  go_enter Tryd.func5, Tryd.ntmps5
  go_wp2_with fail
  refine (HD.out _).mono ?_
  rintro e w1 ⟨rfl, hb⟩
  have HX := hidden ((Box.new w s t l v st (.slice a n cap)).below hb (by simp))
  have HB := hidden (below_old hb)
  clear hb
  obtain ⟨c0, c1, c2, c3, c4, c5⟩ := HX.out.cells
  go_wp2_with fail
  go_region_with (go_at_call 14; refine (HC.out _).mono ?_; rintro e w2 ⟨rfl, hb2⟩)
  go_wp2_with fail
  go_ret
  exact ⟨rfl, HB.out.trans ((below_drew hb2).mono HB.out.size)⟩

set_option maxHeartbeats 1000000 in
set_option maxRecDepth 100000 in
theorem walk_size (s t l v : Nat) (st : Bool) (a : Option Addr) (n cap : Nat) (L : List Nat) (size : Int) (w : World) (hg : w.cell? ⟨0, 0, none⟩ = some (.iface 81 (.agg #[.pointer (some ⟨1, 25, none⟩)])))
    (h : Arg w a n L) (hn : a = none → n = 0 ∧ cap = 0) (hcap : n ≤ cap) (hf : fault s t l v n = 0) (hsz : size < 1 ∨ 1000 < size) :
    Calls Tryd.prog 5 #[.agg #[.int .i64 (s : Int), .int .i64 (t : Int), .int .i64 (l : Int), .int .i64 (v : Int), .bool st, .slice a n cap], .int .i64 size] w fun e w' => e = .returned (.bool true) ∧ Below w.heap.size w w' := by
  have C := fun w => check_calls s t l v st a n cap w
  rw [hf, errv_zero] at C
  obtain ⟨_, _, _, _, e1, e2, e3, e4, hs, ht, hl, hv, hb⟩ := fault_zero hf
  obtain rfl := Int.ofNat_inj.1 e1
  obtain rfl := Int.ofNat_inj.1 e2
  obtain rfl := Int.ofNat_inj.1 e3
  obtain rfl := Int.ofNat_inj.1 e4
  have D := fun w h => encode_good s t l v st a n cap L w h hn hs ht hl hv hb
  have HC := hidden C
  have HD := hidden D
  have HA := hidden h
  have HG := hidden hg
  have HZ := hidden (fun w => split_size s t l v st a n cap size w hsz)
  clear C D h hn hg e1 e2 e3 e4 hf
  go_enter Tryd.func5, Tryd.ntmps5
  go_wp2_with fail
  refine (HD.out _ (HA.out.below ((Below.refl _ _).alloc (Nat.le_refl _) _))).mono ?_
  rintro e w1 ⟨g, rfl, _, _, hb1⟩
  have HX := hidden ((Box.new w s t l v st (.slice a n cap)).below hb1 (by simp))
  have HB := hidden (below_old hb1)
  clear hb1
  obtain ⟨c0, c1, c2, c3, c4, c5⟩ := HX.out.cells
  go_wp2_with fail
  go_region_with (go_at_call 14; refine (HC.out _).mono ?_; rintro e w2 ⟨rfl, hb2⟩)
  have hb3 := below_drew hb2
  have HX2 := hidden (HX.out.below hb3 HX.out.lt)
  have HB2 := hidden (HB.out.trans (hb3.mono HB.out.size))
  have hlt : w.heap.size < w2.heap.size := HX2.out.lt
  clear hb2 hb3 HX HB c0 c1 c2 c3 c4 c5 HC HD
  obtain ⟨c0, c1, c2, c3, c4, c5⟩ := HX2.out.cells
  have HG2 := hidden ((HB2.out.cell (p := ⟨0, 0, none⟩) (lt_of_cell HG.out)).trans HG.out)
  go_wp2_with fail
  refine (HZ.out _).mono ?_
  rintro e w3 ⟨rfl, hb3⟩
  have HB3 := hidden (HB2.out.trans (hb3.mono HB2.out.size))
  have HG3 := hidden ((hb3.cell (p := ⟨0, 0, none⟩) (lt_of_cell HG2.out)).trans HG2.out)
  clear hb3 c0 c1 c2 c3 c4 c5
  by_cases p : size < 1
  · have d : decide (size < 1) = true := by simpa using p
    go_wp2_with fail
    refine (same_is 1 _ (by omega) (by omega) HG3.out).mono ?_
    rintro e w4 ⟨rfl, hb4⟩
    go_wp2_with fail
    go_ret
    exact ⟨rfl, HB3.out.trans (hb4.mono HB3.out.size)⟩
  · have d : decide (size < 1) = false := by simpa using p
    have d2 : decide (1000 < size) = true := by simp; omega
    go_wp2_with fail
    refine (same_is 1 _ (by omega) (by omega) HG3.out).mono ?_
    rintro e w4 ⟨rfl, hb4⟩
    go_wp2_with fail
    go_ret
    exact ⟨rfl, HB3.out.trans (hb4.mono HB3.out.size)⟩

set_option maxHeartbeats 1000000 in
set_option maxRecDepth 100000 in
theorem walk_full (s t l v : Nat) (st : Bool) (a : Option Addr) (n cap : Nat) (L : List Nat) (z : Nat) (w : World) (hg : w.cell? ⟨0, 0, none⟩ = some (.iface 81 (.agg #[.pointer (some ⟨1, 25, none⟩)])))
    (h : Arg w a n L) (hn : a = none → n = 0 ∧ cap = 0) (hcap : n ≤ cap) (hf : fault s t l v n = 0) (h1 : 1 ≤ z) (h2 : z ≤ 1000) (hN : 200 < count n z) :
    Calls Tryd.prog 5 #[.agg #[.int .i64 (s : Int), .int .i64 (t : Int), .int .i64 (l : Int), .int .i64 (v : Int), .bool st, .slice a n cap], .int .i64 (z : Int)] w fun e w' => e = .returned (.bool true) ∧ Below w.heap.size w w' := by
  have C := fun w => check_calls s t l v st a n cap w
  rw [hf, errv_zero] at C
  obtain ⟨_, _, _, _, e1, e2, e3, e4, hs, ht, hl, hv, hb⟩ := fault_zero hf
  obtain rfl := Int.ofNat_inj.1 e1
  obtain rfl := Int.ofNat_inj.1 e2
  obtain rfl := Int.ofNat_inj.1 e3
  obtain rfl := Int.ofNat_inj.1 e4
  have D := fun w h => encode_good s t l v st a n cap L w h hn hs ht hl hv hb
  have HC := hidden C
  have HD := hidden D
  have HA := hidden h
  have HG := hidden hg
  have d : decide ((z : Int) < 1) = false := by simp; omega
  have d2 : decide (1000 < (z : Int)) = false := by simp; omega
  have d3 : ¬ (z : Int) = 0 := by omega
  have hq := quo_eq n z h1
  have hcc : count n z = max 1 ((n + z - 1) / z) := rfl
  have hle := count_le h1 hb
  have HF := hidden (fun w => split_full s t l v st a n cap z w h1 h2 hf hN)
  generalize (n + z - 1) / z = q at *
  generalize count n z = N at *
  have hw := wrap_small q (by clear hq d d2 d3; omega)
  have HCC := hidden hcc
  clear C D h hn hg e1 e2 e3 e4 hf hcc
  go_enter Tryd.func5, Tryd.ntmps5
  go_wp2_with fail
  refine (HD.out _ (HA.out.below ((Below.refl _ _).alloc (Nat.le_refl _) _))).mono ?_
  rintro e w1 ⟨g, rfl, _, _, hb1⟩
  have HX := hidden ((Box.new w s t l v st (.slice a n cap)).below hb1 (by simp))
  have HB := hidden (below_old hb1)
  clear hb1
  obtain ⟨c0, c1, c2, c3, c4, c5⟩ := HX.out.cells
  go_wp2_with fail
  go_region_with (go_at_call 14; refine (HC.out _).mono ?_; rintro e w2 ⟨rfl, hb2⟩)
  have hb3 := below_drew hb2
  have HX2 := hidden (HX.out.below hb3 HX.out.lt)
  have HB2 := hidden (HB.out.trans (hb3.mono HB.out.size))
  have hlt : w.heap.size < w2.heap.size := HX2.out.lt
  clear hb2 hb3 HX HB c0 c1 c2 c3 c4 c5 HC HD
  obtain ⟨c0, c1, c2, c3, c4, c5⟩ := HX2.out.cells
  have HG2 := hidden ((HB2.out.cell (p := ⟨0, 0, none⟩) (lt_of_cell HG.out)).trans HG.out)
  go_wp2_with fail
  refine (HF.out _).mono ?_
  rintro e w3 ⟨rfl, hb3⟩
  have HB3 := hidden (HB2.out.trans (hb3.mono HB2.out.size))
  have HX3 := hidden (HX2.out.below hb3 HX2.out.lt)
  have HG3 := hidden ((hb3.cell (p := ⟨0, 0, none⟩) (lt_of_cell HG2.out)).trans HG2.out)
  clear hb3 c0 c1 c2 c3 c4 c5
  obtain ⟨c0, c1, c2, c3, c4, c5⟩ := HX3.out.cells
  go_upto_if 52 with fail
  go_cut [8] from 53 (fun x wx => x = .int .i64 (N : Int) ∧ wx = w3)
  case first =>
    go_wp2_with fail
    all_goals go_meet
    all_goals refine ⟨congrArg (Value.int .i64) ?_, rfl⟩
    all_goals (rename_i hx; have hcc := HCC.out; (try rw [hw] at hx); (try rw [hw]); clear hw hq; omega)
  case rest =>
  obtain ⟨rfl, rfl⟩ := hcut
  go_wp2_with fail
  refine (same_is 4 _ (by decide) (by decide) HG3.out).mono ?_
  rintro e w4 ⟨rfl, hb4⟩
  go_wp2_with fail
  go_ret
  exact ⟨rfl, HB3.out.trans (hb4.mono HB3.out.size)⟩

set_option maxHeartbeats 1000000 in
set_option maxRecDepth 100000 in
theorem walk_parts (s t l v : Nat) (st : Bool) (a : Option Addr) (n cap : Nat) (L : List Nat) (z : Nat) (w : World) (hg : w.cell? ⟨0, 0, none⟩ = some (.iface 81 (.agg #[.pointer (some ⟨1, 25, none⟩)])))
    (h : Arg w a n L) (hn : a = none → n = 0 ∧ cap = 0) (hcap : n ≤ cap) (hf : fault s t l v n = 0) (h1 : 1 ≤ z) (h2 : z ≤ 1000) (hN : count n z ≤ 200) :
    Calls Tryd.prog 5 #[.agg #[.int .i64 (s : Int), .int .i64 (t : Int), .int .i64 (l : Int), .int .i64 (v : Int), .bool st, .slice a n cap], .int .i64 (z : Int)] w fun e w' => e = .returned (.bool true) ∧ Below w.heap.size w w' := by
  have C := fun w => check_calls s t l v st a n cap w
  rw [hf, errv_zero] at C
  obtain ⟨_, _, _, _, e1, e2, e3, e4, hs, ht, hl, hv, hb⟩ := fault_zero hf
  obtain rfl := Int.ofNat_inj.1 e1
  obtain rfl := Int.ofNat_inj.1 e2
  obtain rfl := Int.ofNat_inj.1 e3
  obtain rfl := Int.ofNat_inj.1 e4
  have D := fun w h => encode_good s t l v st a n cap L w h hn hs ht hl hv hb
  have HC := hidden C
  have HD := hidden D
  have HA := hidden h
  have HG := hidden hg
  have d : decide ((z : Int) < 1) = false := by simp; omega
  have d2 : decide (1000 < (z : Int)) = false := by simp; omega
  have d3 : ¬ (z : Int) = 0 := by omega
  have hq := quo_eq n z h1
  have hcc : count n z = max 1 ((n + z - 1) / z) := rfl
  have hle := count_le h1 hb
  have HK : Hid (∀ W, Arg W a n L → Calls Tryd.prog 20 #[.agg #[.int .i64 (s : Int), .int .i64 (t : Int), .int .i64 (l : Int), .int .i64 (v : Int), .bool st, .slice a n cap], .int .i64 (z : Int)] W fun e w' => ∃ g, e = .returned (.tuple #[.slice (some ⟨g, 0, none⟩) (count n z) (count n z), .nilIface]) ∧
      Below W.heap.size W w') := fun W hA => by
    refine (split_good s t l v st a n cap L z W hA hn hcap h1 h2 hf hN).mono ?_
    rintro e w' ⟨g, rfl, _, hb⟩
    exact ⟨g, rfl, hb⟩
  generalize (n + z - 1) / z = q at *
  generalize count n z = N at *
  have hw := wrap_small q (by clear hq d d2 d3; omega)
  have HCC := hidden hcc
  clear C D h hn hg e1 e2 e3 e4 hf hcc
  go_enter Tryd.func5, Tryd.ntmps5
  go_wp2_with fail
  refine (HD.out _ (HA.out.below ((Below.refl _ _).alloc (Nat.le_refl _) _))).mono ?_
  rintro e w1 ⟨g, rfl, _, _, hb1⟩
  have HX := hidden ((Box.new w s t l v st (.slice a n cap)).below hb1 (by simp))
  have HB := hidden (below_old hb1)
  clear hb1
  obtain ⟨c0, c1, c2, c3, c4, c5⟩ := HX.out.cells
  go_wp2_with fail
  go_region_with (go_at_call 14; refine (HC.out _).mono ?_; rintro e w2 ⟨rfl, hb2⟩)
  have hb3 := below_drew hb2
  have HX2 := hidden (HX.out.below hb3 HX.out.lt)
  have HB2 := hidden (HB.out.trans (hb3.mono HB.out.size))
  have hlt : w.heap.size < w2.heap.size := HX2.out.lt
  clear hb2 hb3 HX HB c0 c1 c2 c3 c4 c5 HC HD
  obtain ⟨c0, c1, c2, c3, c4, c5⟩ := HX2.out.cells
  have HG2 := hidden ((HB2.out.cell (p := ⟨0, 0, none⟩) (lt_of_cell HG.out)).trans HG.out)
  go_wp2_with fail
  refine (HK.out _ (HA.out.below HB2.out)).mono ?_
  rintro e w3 ⟨g3, rfl, hb3⟩
  have HB3 := hidden (HB2.out.trans (hb3.mono HB2.out.size))
  have HX3 := hidden (HX2.out.below hb3 HX2.out.lt)
  clear hb3 c0 c1 c2 c3 c4 c5
  obtain ⟨c0, c1, c2, c3, c4, c5⟩ := HX3.out.cells
  go_upto_if 52 with fail
  go_cut [8] from 53 (fun x wx => x = .int .i64 (N : Int) ∧ wx = w3)
  case first =>
    go_wp2_with fail
    all_goals go_meet
    all_goals refine ⟨congrArg (Value.int .i64) ?_, rfl⟩
    all_goals (rename_i hx; have hcc := HCC.out; (try rw [hw] at hx); (try rw [hw]); clear hw hq; omega)
  case rest =>
  obtain ⟨rfl, rfl⟩ := hcut
  go_wp2_with fail
  go_ret
  exact ⟨rfl, HB3.out⟩

theorem walk_any (s t l v : Int) (st : Bool) (a : Option Addr) (n cap : Nat) (L : List Nat) (size : Int) (w : World) (hg : w.cell? ⟨0, 0, none⟩ = some (.iface 81 (.agg #[.pointer (some ⟨1, 25, none⟩)])))
    (h : Arg w a n L) (hn : a = none → n = 0 ∧ cap = 0) (hcap : n ≤ cap) :
    Calls Tryd.prog 5 #[.agg #[.int .i64 s, .int .i64 t, .int .i64 l, .int .i64 v, .bool st, .slice a n cap], .int .i64 size] w fun e w' => e = .returned (.bool true) ∧ Below w.heap.size w w' := by
  by_cases hf : fault s t l v n = 0
  · obtain ⟨s', t', l', v', rfl, rfl, rfl, rfl, _⟩ := fault_zero hf
    by_cases hz : size < 1 ∨ 1000 < size
    · exact walk_size s' t' l' v' st a n cap L size w hg h hn hcap hf hz
    · obtain ⟨z, rfl⟩ : ∃ z : Nat, size = (z : Int) := ⟨size.toNat, by omega⟩
      by_cases hN : count n z ≤ 200
      · exact walk_parts s' t' l' v' st a n cap L z w hg h hn hcap hf (by omega) (by omega) hN
      · exact walk_full s' t' l' v' st a n cap L z w hg h hn hcap hf (by omega) (by omega) (by omega)
  · exact walk_bad s t l v st a n cap size w hf
end Go.Proofs.YtdmajaofjfgccabDoor.Sizes
