/-
  What the reference's Hear returns, and what it leaves in memory.
-/
import Derived.Test.YtfdbfelcokockaiDoorRLinkA
namespace Go.Proofs.YtfdbfelcokockaiDoor.RLink
open Go.ChangeShapes Go.WideShapes Go.ChangeAt Go.RowKit Go.Proofs.YtfdbfelcokockaiDoor.Mem Go.Proofs.YtfdbfelcokockaiDoor.LK Go.Proofs.YtfdbfelcokockaiDoor.Link
set_option linter.unusedVariables false

set_option maxHeartbeats 1000000 in
set_option maxRecDepth 100000 in
theorem rhear_time1 (b : Nat) (nw now : Int) (a : Option Addr) (n cap : Nat) (w : World) (c5 : w.cell? ⟨b, 5, none⟩ = some (.int .i64 nw)) (ht : tf nw now = 1) :
    Calls Tryd.prog 8 #[.pointer (some ⟨b, 0, none⟩), .slice a n cap, .int .i64 now] w fun e w' => e = .returned (.tuple #[.slice none 0 0, .int .i64 1]) ∧ w' = w := by
  have HT := hidden (time_calls b nw now w c5)
  rw [ht] at HT
  clear ht
  go_enter Tryd.func8, Tryd.ntmps8
  go_wp2_with fail
  refine HT.out.mono ?_
  rintro e w0 ⟨rfl, hw⟩
  obtain rfl := hw.symm
  clear HT
  go_wp2_with fail
  go_ret2
  exact ⟨rfl, rfl⟩
set_option maxHeartbeats 1000000 in
set_option maxRecDepth 100000 in
theorem rhear_time6 (b : Nat) (nw now : Int) (a : Option Addr) (n cap : Nat) (w : World) (c5 : w.cell? ⟨b, 5, none⟩ = some (.int .i64 nw)) (ht : tf nw now = 6) :
    Calls Tryd.prog 8 #[.pointer (some ⟨b, 0, none⟩), .slice a n cap, .int .i64 now] w fun e w' => e = .returned (.tuple #[.slice none 0 0, .int .i64 6]) ∧ w' = w := by
  have HT := hidden (time_calls b nw now w c5)
  rw [ht] at HT
  clear ht
  go_enter Tryd.func8, Tryd.ntmps8
  go_wp2_with fail
  refine HT.out.mono ?_
  rintro e w0 ⟨rfl, hw⟩
  obtain rfl := hw.symm
  clear HT
  go_wp2_with fail
  go_ret2
  exact ⟨rfl, rfl⟩
set_option maxHeartbeats 1000000 in
set_option maxRecDepth 100000 in
theorem rhear_shape (b : Nat) (nw now : Int) (a : Option Addr) (n cap : Nat) (w : World) (c5 : w.cell? ⟨b, 5, none⟩ = some (.int .i64 nw)) (ht : tf nw now = 0) (hn : n ≠ 3) :
    Calls Tryd.prog 8 #[.pointer (some ⟨b, 0, none⟩), .slice a n cap, .int .i64 now] w fun e w' => e = .returned (.tuple #[.slice none 0 0, .int .i64 3]) ∧ w' = w := by
  have HT := hidden (time_calls b nw now w c5)
  rw [ht] at HT
  have d : ((n : Int) == 3) = false := by simp; omega
  have d1 : (n == 3) = false := by simpa using hn
  clear ht hn
  go_enter Tryd.func8, Tryd.ntmps8
  go_wp2_with fail
  refine HT.out.mono ?_
  rintro e w0 ⟨rfl, hw⟩
  obtain rfl := hw.symm
  clear HT
  go_wp2_with fail
  go_ret2
  exact ⟨rfl, rfl⟩
set_option maxHeartbeats 1000000 in
set_option maxRecDepth 100000 in
theorem rhear_k0 (b g o cap : Nat) (k f y nw now : Int) (w : World) (c5 : w.cell? ⟨b, 5, none⟩ = some (.int .i64 nw)) (m0 : w.cell? ⟨g, o, none⟩ = some (.int .i64 k)) (m1 : w.cell? ⟨g, o + 1, none⟩ = some (.int .i64 f)) (m2 : w.cell? ⟨g, o + 2, none⟩ = some (.int .i64 y)) (ht : tf nw now = 0)  (hb : k < 1) :
    Calls Tryd.prog 8 #[.pointer (some ⟨b, 0, none⟩), .slice (some ⟨g, o, none⟩) 3 cap, .int .i64 now] w fun e w' => e = .returned (.tuple #[.slice none 0 0, .int .i64 1]) ∧ w' = w := by
  have HT := hidden (time_calls b nw now w c5)
  rw [ht] at HT
  clear ht
  have d0 : decide (k < 1) = true := decide_eq_true (by omega)
  go_enter Tryd.func8, Tryd.ntmps8
  go_wp2_with fail
  refine HT.out.mono ?_
  rintro e w0 ⟨rfl, hw⟩
  obtain rfl := hw.symm
  clear HT
  go_wp2_with fail
  go_ret2
  exact ⟨rfl, rfl⟩
set_option maxHeartbeats 1000000 in
set_option maxRecDepth 100000 in
theorem rhear_k1 (b g o cap : Nat) (k f y nw now : Int) (w : World) (c5 : w.cell? ⟨b, 5, none⟩ = some (.int .i64 nw)) (m0 : w.cell? ⟨g, o, none⟩ = some (.int .i64 k)) (m1 : w.cell? ⟨g, o + 1, none⟩ = some (.int .i64 f)) (m2 : w.cell? ⟨g, o + 2, none⟩ = some (.int .i64 y)) (ht : tf nw now = 0) (h0 : 1 ≤ k) (hb : 3 < k) :
    Calls Tryd.prog 8 #[.pointer (some ⟨b, 0, none⟩), .slice (some ⟨g, o, none⟩) 3 cap, .int .i64 now] w fun e w' => e = .returned (.tuple #[.slice none 0 0, .int .i64 1]) ∧ w' = w := by
  have HT := hidden (time_calls b nw now w c5)
  rw [ht] at HT
  clear ht
  have d0 : decide (k < 1) = false := decide_eq_false (by omega)
  have d1 : decide (3 < k) = true := decide_eq_true (by omega)
  go_enter Tryd.func8, Tryd.ntmps8
  go_wp2_with fail
  refine HT.out.mono ?_
  rintro e w0 ⟨rfl, hw⟩
  obtain rfl := hw.symm
  clear HT
  go_wp2_with fail
  go_ret2
  exact ⟨rfl, rfl⟩
set_option maxHeartbeats 1000000 in
set_option maxRecDepth 100000 in
theorem rhear_f0 (b g o cap : Nat) (k f y nw now : Int) (w : World) (c5 : w.cell? ⟨b, 5, none⟩ = some (.int .i64 nw)) (m0 : w.cell? ⟨g, o, none⟩ = some (.int .i64 k)) (m1 : w.cell? ⟨g, o + 1, none⟩ = some (.int .i64 f)) (m2 : w.cell? ⟨g, o + 2, none⟩ = some (.int .i64 y)) (ht : tf nw now = 0) (h0 : 1 ≤ k) (h1 : k ≤ 3) (hb : f < 1) :
    Calls Tryd.prog 8 #[.pointer (some ⟨b, 0, none⟩), .slice (some ⟨g, o, none⟩) 3 cap, .int .i64 now] w fun e w' => e = .returned (.tuple #[.slice none 0 0, .int .i64 1]) ∧ w' = w := by
  have HT := hidden (time_calls b nw now w c5)
  rw [ht] at HT
  clear ht
  have d0 : decide (k < 1) = false := decide_eq_false (by omega)
  have d1 : decide (3 < k) = false := decide_eq_false (by omega)
  have d2 : decide (f < 1) = true := decide_eq_true (by omega)
  go_enter Tryd.func8, Tryd.ntmps8
  go_wp2_with fail
  refine HT.out.mono ?_
  rintro e w0 ⟨rfl, hw⟩
  obtain rfl := hw.symm
  clear HT
  go_wp2_with fail
  go_ret2
  exact ⟨rfl, rfl⟩
set_option maxHeartbeats 1000000 in
set_option maxRecDepth 100000 in
theorem rhear_f1 (b g o cap : Nat) (k f y nw now : Int) (w : World) (c5 : w.cell? ⟨b, 5, none⟩ = some (.int .i64 nw)) (m0 : w.cell? ⟨g, o, none⟩ = some (.int .i64 k)) (m1 : w.cell? ⟨g, o + 1, none⟩ = some (.int .i64 f)) (m2 : w.cell? ⟨g, o + 2, none⟩ = some (.int .i64 y)) (ht : tf nw now = 0) (h0 : 1 ≤ k) (h1 : k ≤ 3) (h2 : 1 ≤ f) (hb : 1000000 < f) :
    Calls Tryd.prog 8 #[.pointer (some ⟨b, 0, none⟩), .slice (some ⟨g, o, none⟩) 3 cap, .int .i64 now] w fun e w' => e = .returned (.tuple #[.slice none 0 0, .int .i64 1]) ∧ w' = w := by
  have HT := hidden (time_calls b nw now w c5)
  rw [ht] at HT
  clear ht
  have d0 : decide (k < 1) = false := decide_eq_false (by omega)
  have d1 : decide (3 < k) = false := decide_eq_false (by omega)
  have d2 : decide (f < 1) = false := decide_eq_false (by omega)
  have d3 : decide (1000000 < f) = true := decide_eq_true (by omega)
  go_enter Tryd.func8, Tryd.ntmps8
  go_wp2_with fail
  refine HT.out.mono ?_
  rintro e w0 ⟨rfl, hw⟩
  obtain rfl := hw.symm
  clear HT
  go_wp2_with fail
  go_ret2
  exact ⟨rfl, rfl⟩
set_option maxHeartbeats 1000000 in
set_option maxRecDepth 100000 in
theorem rhear_y0 (b g o cap : Nat) (k f y nw now : Int) (w : World) (c5 : w.cell? ⟨b, 5, none⟩ = some (.int .i64 nw)) (m0 : w.cell? ⟨g, o, none⟩ = some (.int .i64 k)) (m1 : w.cell? ⟨g, o + 1, none⟩ = some (.int .i64 f)) (m2 : w.cell? ⟨g, o + 2, none⟩ = some (.int .i64 y)) (ht : tf nw now = 0) (h0 : 1 ≤ k) (h1 : k ≤ 3) (h2 : 1 ≤ f) (h3 : f ≤ 1000000) (hb : y < 0) :
    Calls Tryd.prog 8 #[.pointer (some ⟨b, 0, none⟩), .slice (some ⟨g, o, none⟩) 3 cap, .int .i64 now] w fun e w' => e = .returned (.tuple #[.slice none 0 0, .int .i64 1]) ∧ w' = w := by
  have HT := hidden (time_calls b nw now w c5)
  rw [ht] at HT
  clear ht
  have d0 : decide (k < 1) = false := decide_eq_false (by omega)
  have d1 : decide (3 < k) = false := decide_eq_false (by omega)
  have d2 : decide (f < 1) = false := decide_eq_false (by omega)
  have d3 : decide (1000000 < f) = false := decide_eq_false (by omega)
  have d4 : decide (y < 0) = true := decide_eq_true (by omega)
  go_enter Tryd.func8, Tryd.ntmps8
  go_wp2_with fail
  refine HT.out.mono ?_
  rintro e w0 ⟨rfl, hw⟩
  obtain rfl := hw.symm
  clear HT
  go_wp2_with fail
  go_ret2
  exact ⟨rfl, rfl⟩
set_option maxHeartbeats 1000000 in
set_option maxRecDepth 100000 in
theorem rhear_y1 (b g o cap : Nat) (k f y nw now : Int) (w : World) (c5 : w.cell? ⟨b, 5, none⟩ = some (.int .i64 nw)) (m0 : w.cell? ⟨g, o, none⟩ = some (.int .i64 k)) (m1 : w.cell? ⟨g, o + 1, none⟩ = some (.int .i64 f)) (m2 : w.cell? ⟨g, o + 2, none⟩ = some (.int .i64 y)) (ht : tf nw now = 0) (h0 : 1 ≤ k) (h1 : k ≤ 3) (h2 : 1 ≤ f) (h3 : f ≤ 1000000) (h4 : 0 ≤ y) (hb : 1000000 < y) :
    Calls Tryd.prog 8 #[.pointer (some ⟨b, 0, none⟩), .slice (some ⟨g, o, none⟩) 3 cap, .int .i64 now] w fun e w' => e = .returned (.tuple #[.slice none 0 0, .int .i64 1]) ∧ w' = w := by
  have HT := hidden (time_calls b nw now w c5)
  rw [ht] at HT
  clear ht
  have d0 : decide (k < 1) = false := decide_eq_false (by omega)
  have d1 : decide (3 < k) = false := decide_eq_false (by omega)
  have d2 : decide (f < 1) = false := decide_eq_false (by omega)
  have d3 : decide (1000000 < f) = false := decide_eq_false (by omega)
  have d4 : decide (y < 0) = false := decide_eq_false (by omega)
  have d5 : decide (1000000 < y) = true := decide_eq_true (by omega)
  go_enter Tryd.func8, Tryd.ntmps8
  go_wp2_with fail
  refine HT.out.mono ?_
  rintro e w0 ⟨rfl, hw⟩
  obtain rfl := hw.symm
  clear HT
  go_wp2_with fail
  go_ret2
  exact ⟨rfl, rfl⟩
set_option maxHeartbeats 2000000 in
set_option maxRecDepth 100000 in
theorem rh_cold1m (b g o cap : Nat) (f y me ot st hd sd nw now : Int) (w : World) (h : R6 w b me ot st hd sd nw) (m0 : w.cell? ⟨g, o, none⟩ = some (.int .i64 1)) (m1 : w.cell? ⟨g, o + 1, none⟩ = some (.int .i64 f)) (m2 : w.cell? ⟨g, o + 2, none⟩ = some (.int .i64 y)) (ht : tf nw now = 0) (hne : g ≠ b) (hf0 : 1 ≤ f) (hf1 : f ≤ 1000000) (hy0 : 0 ≤ y) (hy1 : y ≤ 1000000) (hs : st ≠ 2) :
    Calls Tryd.prog 8 #[.pointer (some ⟨b, 0, none⟩), .slice (some ⟨g, o, none⟩) 3 cap, .int .i64 now] w fun e w' => ∃ q, e = .returned (.tuple #[.slice (some ⟨q, 0, none⟩) 3 3, .int .i64 0]) ∧ R6 w' b me f 2 now now now ∧ Msg w' q 2 me f ∧ Only [b] w w' := by
  have HT := hidden (time_calls b nw now w h.cells.2.2.2.2.2)
  rw [ht] at HT
  clear ht
  have hgl : g < w.heap.size := World.block_lt_of_cell? w ⟨g, o, none⟩ m0
  have d0 : decide (f < 1) = false := decide_eq_false (by omega)
  have d1 : decide (1000000 < f) = false := decide_eq_false (by omega)
  have d2 : decide (y < 0) = false := decide_eq_false (by omega)
  have d3 : decide (1000000 < y) = false := decide_eq_false (by omega)
  have e0 : (st == 2) = false := by simpa using hs
  have HM := hidden (And.intro m0 (And.intro m1 m2))
  have HR0 := hidden h
  obtain ⟨z0, z1, z2, z3, z4, z5⟩ := h.cells
  have f5 := h.free 5
  clear h
  go_enter Tryd.func8, Tryd.ntmps8
  go_wp2_with fail
  refine HT.out.mono ?_
  rintro e w0 ⟨rfl, hw⟩
  obtain rfl := hw.symm
  clear HT
  go_wp2_with fail
  obtain ⟨w1, hw1⟩ : ∃ x, w.setCell ⟨b, 5, none⟩ (.int .i64 now) = x := ⟨_, rfl⟩
  have HR1 : Hid (R6 w1 b me ot st hd sd now) := by rw [← hw1]; exact HR0.out.set5 now
  have HO1 : Hid (Only [b] w w1) := by rw [← hw1]; exact (Only.refl _ _).setCell (by simp) _
  rw [hw1]
  clear hw1 z0 z1 z2 z3 z4 z5 f5 m0 m1 m2 HR0 d0 d1 d2 d3
  obtain ⟨y0, y1, y2, y3, y4, y5⟩ := HR1.out.cells
  have n0 : w1.cell? ⟨g, o, none⟩ = some (.int .i64 1) := cell_only HM.out.1 HO1.out hgl hne
  have n1 : w1.cell? ⟨g, o + 1, none⟩ = some (.int .i64 f) := cell_only HM.out.2.1 HO1.out hgl hne
  have n2 : w1.cell? ⟨g, o + 2, none⟩ = some (.int .i64 y) := cell_only HM.out.2.2 HO1.out hgl hne
  go_quiet (fail)
  obtain ⟨w2, hw2⟩ : ∃ x, w1.drewN nq = x := ⟨_, rfl⟩
  have HR2 : Hid (R6 w2 b me ot st hd sd now) := by rw [← hw2]; exact HR1.out.below (below_drewN (Below.refl _ _) _)
  have HO2 : Hid (Only [b] w w2) := by rw [← hw2]; exact HO1.out.drewN _
  rw [hw2]
  clear hw2 HR1 HO1 y0 y1 y2 y3 y4 y5 n0 n1 n2
  obtain ⟨y0, y1, y2, y3, y4, y5⟩ := HR2.out.cells
  have n0 : w2.cell? ⟨g, o, none⟩ = some (.int .i64 1) := cell_only HM.out.1 HO2.out hgl hne
  have n1 : w2.cell? ⟨g, o + 1, none⟩ = some (.int .i64 f) := cell_only HM.out.2.1 HO2.out hgl hne
  have n2 : w2.cell? ⟨g, o + 2, none⟩ = some (.int .i64 y) := cell_only HM.out.2.2 HO2.out hgl hne
  go_wp2_with fail
  go_quiet (fail)
  obtain ⟨w3, hw3⟩ : ∃ x, w2.drewN nq = x := ⟨_, rfl⟩
  have HR3 : Hid (R6 w3 b me ot st hd sd now) := by rw [← hw3]; exact HR2.out.below (below_drewN (Below.refl _ _) _)
  have HO3 : Hid (Only [b] w w3) := by rw [← hw3]; exact HO2.out.drewN _
  rw [hw3]
  clear hw3 HR2 HO2 y0 y1 y2 y3 y4 y5 n0 n1 n2
  obtain ⟨y0, y1, y2, y3, y4, y5⟩ := HR3.out.cells
  have n0 : w3.cell? ⟨g, o, none⟩ = some (.int .i64 1) := cell_only HM.out.1 HO3.out hgl hne
  have n1 : w3.cell? ⟨g, o + 1, none⟩ = some (.int .i64 f) := cell_only HM.out.2.1 HO3.out hgl hne
  have n2 : w3.cell? ⟨g, o + 2, none⟩ = some (.int .i64 y) := cell_only HM.out.2.2 HO3.out hgl hne
  have fz0 := (HR3.out).free 2
  obtain ⟨v00, v01, v02, v03, v04, v05⟩ := ((HR3.out).set2 2).cells
  have nn1 : ((w3).setCell ⟨b, 2, none⟩ (.int .i64 2)).cell? ⟨g, o + 1, none⟩ = some (.int .i64 f) := cell_only HM.out.2.1 ((HO3.out).setCell (by simp) _) hgl hne
  have fz1 := ((HR3.out).set2 2).free 1
  obtain ⟨v10, v11, v12, v13, v14, v15⟩ := (((HR3.out).set2 2).set1 f).cells
  have fz2 := (((HR3.out).set2 2).set1 f).free 3
  obtain ⟨v20, v21, v22, v23, v24, v25⟩ := ((((HR3.out).set2 2).set1 f).set3 now).cells
  have fz3 := ((((HR3.out).set2 2).set1 f).set3 now).free 4
  obtain ⟨v30, v31, v32, v33, v34, v35⟩ := (((((HR3.out).set2 2).set1 f).set3 now).set4 now).cells
  have HRz : Hid (R6 (((((w3).setCell ⟨b, 2, none⟩ (.int .i64 2)).setCell ⟨b, 1, none⟩ (.int .i64 f)).setCell ⟨b, 3, none⟩ (.int .i64 now)).setCell ⟨b, 4, none⟩ (.int .i64 now)) b me f 2 now now now) := ((((HR3.out).set2 2).set1 f).set3 now).set4 now
  have HOz : Hid (Only [b] w (((((w3).setCell ⟨b, 2, none⟩ (.int .i64 2)).setCell ⟨b, 1, none⟩ (.int .i64 f)).setCell ⟨b, 3, none⟩ (.int .i64 now)).setCell ⟨b, 4, none⟩ (.int .i64 now))) := ((((HO3.out).setCell (by simp) _).setCell (by simp) _).setCell (by simp) _).setCell (by simp) _
  go_wp2_with fail
  go_region
  go_wp2_with fail
  go_ret2
  exact ⟨_, rfl, HRz.out.below (((Below.refl _ _).alloc (Nat.le_refl _) _).drew), msg_newd (by simp [World.setCell]), (HOz.out.alloc _).drew⟩
set_option maxHeartbeats 2000000 in
set_option maxRecDepth 100000 in
theorem rh_cold2m (b g o cap : Nat) (f y me ot st hd sd nw now : Int) (w : World) (h : R6 w b me ot st hd sd nw) (m0 : w.cell? ⟨g, o, none⟩ = some (.int .i64 2)) (m1 : w.cell? ⟨g, o + 1, none⟩ = some (.int .i64 f)) (m2 : w.cell? ⟨g, o + 2, none⟩ = some (.int .i64 y)) (ht : tf nw now = 0) (hne : g ≠ b) (hf0 : 1 ≤ f) (hf1 : f ≤ 1000000) (hy0 : 0 ≤ y) (hy1 : y ≤ 1000000) (hs : st ≠ 2) (hy : y = me) :
    Calls Tryd.prog 8 #[.pointer (some ⟨b, 0, none⟩), .slice (some ⟨g, o, none⟩) 3 cap, .int .i64 now] w fun e w' => ∃ q, e = .returned (.tuple #[.slice (some ⟨q, 0, none⟩) 3 3, .int .i64 0]) ∧ R6 w' b me f 2 now now now ∧ Msg w' q 3 me f ∧ Only [b] w w' := by
  have HT := hidden (time_calls b nw now w h.cells.2.2.2.2.2)
  rw [ht] at HT
  clear ht
  have hgl : g < w.heap.size := World.block_lt_of_cell? w ⟨g, o, none⟩ m0
  have d0 : decide (f < 1) = false := decide_eq_false (by omega)
  have d1 : decide (1000000 < f) = false := decide_eq_false (by omega)
  have d2 : decide (y < 0) = false := decide_eq_false (by omega)
  have d3 : decide (1000000 < y) = false := decide_eq_false (by omega)
  have e0 : (st == 2) = false := by simpa using hs
  subst hy
  have HM := hidden (And.intro m0 (And.intro m1 m2))
  have HR0 := hidden h
  obtain ⟨z0, z1, z2, z3, z4, z5⟩ := h.cells
  have f5 := h.free 5
  clear h
  go_enter Tryd.func8, Tryd.ntmps8
  go_wp2_with fail
  refine HT.out.mono ?_
  rintro e w0 ⟨rfl, hw⟩
  obtain rfl := hw.symm
  clear HT
  go_wp2_with fail
  obtain ⟨w1, hw1⟩ : ∃ x, w.setCell ⟨b, 5, none⟩ (.int .i64 now) = x := ⟨_, rfl⟩
  have HR1 : Hid (R6 w1 b y ot st hd sd now) := by rw [← hw1]; exact HR0.out.set5 now
  have HO1 : Hid (Only [b] w w1) := by rw [← hw1]; exact (Only.refl _ _).setCell (by simp) _
  rw [hw1]
  clear hw1 z0 z1 z2 z3 z4 z5 f5 m0 m1 m2 HR0 d0 d1 d2 d3
  obtain ⟨y0, y1, y2, y3, y4, y5⟩ := HR1.out.cells
  have n0 : w1.cell? ⟨g, o, none⟩ = some (.int .i64 2) := cell_only HM.out.1 HO1.out hgl hne
  have n1 : w1.cell? ⟨g, o + 1, none⟩ = some (.int .i64 f) := cell_only HM.out.2.1 HO1.out hgl hne
  have n2 : w1.cell? ⟨g, o + 2, none⟩ = some (.int .i64 y) := cell_only HM.out.2.2 HO1.out hgl hne
  go_quiet (fail)
  obtain ⟨w2, hw2⟩ : ∃ x, w1.drewN nq = x := ⟨_, rfl⟩
  have HR2 : Hid (R6 w2 b y ot st hd sd now) := by rw [← hw2]; exact HR1.out.below (below_drewN (Below.refl _ _) _)
  have HO2 : Hid (Only [b] w w2) := by rw [← hw2]; exact HO1.out.drewN _
  rw [hw2]
  clear hw2 HR1 HO1 y0 y1 y2 y3 y4 y5 n0 n1 n2
  obtain ⟨y0, y1, y2, y3, y4, y5⟩ := HR2.out.cells
  have n0 : w2.cell? ⟨g, o, none⟩ = some (.int .i64 2) := cell_only HM.out.1 HO2.out hgl hne
  have n1 : w2.cell? ⟨g, o + 1, none⟩ = some (.int .i64 f) := cell_only HM.out.2.1 HO2.out hgl hne
  have n2 : w2.cell? ⟨g, o + 2, none⟩ = some (.int .i64 y) := cell_only HM.out.2.2 HO2.out hgl hne
  go_wp2_with fail
  go_quiet (fail)
  obtain ⟨w3, hw3⟩ : ∃ x, w2.drewN nq = x := ⟨_, rfl⟩
  have HR3 : Hid (R6 w3 b y ot st hd sd now) := by rw [← hw3]; exact HR2.out.below (below_drewN (Below.refl _ _) _)
  have HO3 : Hid (Only [b] w w3) := by rw [← hw3]; exact HO2.out.drewN _
  rw [hw3]
  clear hw3 HR2 HO2 y0 y1 y2 y3 y4 y5 n0 n1 n2
  obtain ⟨y0, y1, y2, y3, y4, y5⟩ := HR3.out.cells
  have n0 : w3.cell? ⟨g, o, none⟩ = some (.int .i64 2) := cell_only HM.out.1 HO3.out hgl hne
  have n1 : w3.cell? ⟨g, o + 1, none⟩ = some (.int .i64 f) := cell_only HM.out.2.1 HO3.out hgl hne
  have n2 : w3.cell? ⟨g, o + 2, none⟩ = some (.int .i64 y) := cell_only HM.out.2.2 HO3.out hgl hne
  go_wp2_with fail
  go_quiet (fail)
  obtain ⟨w4, hw4⟩ : ∃ x, w3.drewN nq = x := ⟨_, rfl⟩
  have HR4 : Hid (R6 w4 b y ot st hd sd now) := by rw [← hw4]; exact HR3.out.below (below_drewN (Below.refl _ _) _)
  have HO4 : Hid (Only [b] w w4) := by rw [← hw4]; exact HO3.out.drewN _
  rw [hw4]
  clear hw4 HR3 HO3 y0 y1 y2 y3 y4 y5 n0 n1 n2
  obtain ⟨y0, y1, y2, y3, y4, y5⟩ := HR4.out.cells
  have n0 : w4.cell? ⟨g, o, none⟩ = some (.int .i64 2) := cell_only HM.out.1 HO4.out hgl hne
  have n1 : w4.cell? ⟨g, o + 1, none⟩ = some (.int .i64 f) := cell_only HM.out.2.1 HO4.out hgl hne
  have n2 : w4.cell? ⟨g, o + 2, none⟩ = some (.int .i64 y) := cell_only HM.out.2.2 HO4.out hgl hne
  have fz0 := (HR4.out).free 2
  obtain ⟨v00, v01, v02, v03, v04, v05⟩ := ((HR4.out).set2 2).cells
  have nn1 : ((w4).setCell ⟨b, 2, none⟩ (.int .i64 2)).cell? ⟨g, o + 1, none⟩ = some (.int .i64 f) := cell_only HM.out.2.1 ((HO4.out).setCell (by simp) _) hgl hne
  have fz1 := ((HR4.out).set2 2).free 1
  obtain ⟨v10, v11, v12, v13, v14, v15⟩ := (((HR4.out).set2 2).set1 f).cells
  have fz2 := (((HR4.out).set2 2).set1 f).free 3
  obtain ⟨v20, v21, v22, v23, v24, v25⟩ := ((((HR4.out).set2 2).set1 f).set3 now).cells
  have fz3 := ((((HR4.out).set2 2).set1 f).set3 now).free 4
  obtain ⟨v30, v31, v32, v33, v34, v35⟩ := (((((HR4.out).set2 2).set1 f).set3 now).set4 now).cells
  have HRz : Hid (R6 (((((w4).setCell ⟨b, 2, none⟩ (.int .i64 2)).setCell ⟨b, 1, none⟩ (.int .i64 f)).setCell ⟨b, 3, none⟩ (.int .i64 now)).setCell ⟨b, 4, none⟩ (.int .i64 now)) b y f 2 now now now) := ((((HR4.out).set2 2).set1 f).set3 now).set4 now
  have HOz : Hid (Only [b] w (((((w4).setCell ⟨b, 2, none⟩ (.int .i64 2)).setCell ⟨b, 1, none⟩ (.int .i64 f)).setCell ⟨b, 3, none⟩ (.int .i64 now)).setCell ⟨b, 4, none⟩ (.int .i64 now))) := ((((HO4.out).setCell (by simp) _).setCell (by simp) _).setCell (by simp) _).setCell (by simp) _
  go_wp2_with fail
  go_region
  go_wp2_with fail
  go_ret2
  exact ⟨_, rfl, HRz.out.below (((Below.refl _ _).alloc (Nat.le_refl _) _).drew), msg_newd (by simp [World.setCell]), (HOz.out.alloc _).drew⟩
set_option maxHeartbeats 2000000 in
set_option maxRecDepth 100000 in
theorem rh_cold2x (b g o cap : Nat) (f y me ot st hd sd nw now : Int) (w : World) (h : R6 w b me ot st hd sd nw) (m0 : w.cell? ⟨g, o, none⟩ = some (.int .i64 2)) (m1 : w.cell? ⟨g, o + 1, none⟩ = some (.int .i64 f)) (m2 : w.cell? ⟨g, o + 2, none⟩ = some (.int .i64 y)) (ht : tf nw now = 0) (hne : g ≠ b) (hf0 : 1 ≤ f) (hf1 : f ≤ 1000000) (hy0 : 0 ≤ y) (hy1 : y ≤ 1000000) (hs : st ≠ 2) (hy : y ≠ me) :
    Calls Tryd.prog 8 #[.pointer (some ⟨b, 0, none⟩), .slice (some ⟨g, o, none⟩) 3 cap, .int .i64 now] w fun e w' => e = .returned (.tuple #[.slice none 0 0, .int .i64 0]) ∧ R6 w' b me ot st hd sd now ∧ Only [b] w w' := by
  have HT := hidden (time_calls b nw now w h.cells.2.2.2.2.2)
  rw [ht] at HT
  clear ht
  have hgl : g < w.heap.size := World.block_lt_of_cell? w ⟨g, o, none⟩ m0
  have d0 : decide (f < 1) = false := decide_eq_false (by omega)
  have d1 : decide (1000000 < f) = false := decide_eq_false (by omega)
  have d2 : decide (y < 0) = false := decide_eq_false (by omega)
  have d3 : decide (1000000 < y) = false := decide_eq_false (by omega)
  have e0 : (st == 2) = false := by simpa using hs
  have e3 : (y == me) = false := by simpa using hy
  have e4 : (y != me) = true := by simpa using hy
  have HM := hidden (And.intro m0 (And.intro m1 m2))
  have HR0 := hidden h
  obtain ⟨z0, z1, z2, z3, z4, z5⟩ := h.cells
  have f5 := h.free 5
  clear h
  go_enter Tryd.func8, Tryd.ntmps8
  go_wp2_with fail
  refine HT.out.mono ?_
  rintro e w0 ⟨rfl, hw⟩
  obtain rfl := hw.symm
  clear HT
  go_wp2_with fail
  obtain ⟨w1, hw1⟩ : ∃ x, w.setCell ⟨b, 5, none⟩ (.int .i64 now) = x := ⟨_, rfl⟩
  have HR1 : Hid (R6 w1 b me ot st hd sd now) := by rw [← hw1]; exact HR0.out.set5 now
  have HO1 : Hid (Only [b] w w1) := by rw [← hw1]; exact (Only.refl _ _).setCell (by simp) _
  rw [hw1]
  clear hw1 z0 z1 z2 z3 z4 z5 f5 m0 m1 m2 HR0 d0 d1 d2 d3
  obtain ⟨y0, y1, y2, y3, y4, y5⟩ := HR1.out.cells
  have n0 : w1.cell? ⟨g, o, none⟩ = some (.int .i64 2) := cell_only HM.out.1 HO1.out hgl hne
  have n1 : w1.cell? ⟨g, o + 1, none⟩ = some (.int .i64 f) := cell_only HM.out.2.1 HO1.out hgl hne
  have n2 : w1.cell? ⟨g, o + 2, none⟩ = some (.int .i64 y) := cell_only HM.out.2.2 HO1.out hgl hne
  go_quiet (fail)
  obtain ⟨w2, hw2⟩ : ∃ x, w1.drewN nq = x := ⟨_, rfl⟩
  have HR2 : Hid (R6 w2 b me ot st hd sd now) := by rw [← hw2]; exact HR1.out.below (below_drewN (Below.refl _ _) _)
  have HO2 : Hid (Only [b] w w2) := by rw [← hw2]; exact HO1.out.drewN _
  rw [hw2]
  clear hw2 HR1 HO1 y0 y1 y2 y3 y4 y5 n0 n1 n2
  obtain ⟨y0, y1, y2, y3, y4, y5⟩ := HR2.out.cells
  have n0 : w2.cell? ⟨g, o, none⟩ = some (.int .i64 2) := cell_only HM.out.1 HO2.out hgl hne
  have n1 : w2.cell? ⟨g, o + 1, none⟩ = some (.int .i64 f) := cell_only HM.out.2.1 HO2.out hgl hne
  have n2 : w2.cell? ⟨g, o + 2, none⟩ = some (.int .i64 y) := cell_only HM.out.2.2 HO2.out hgl hne
  go_wp2_with fail
  go_quiet (fail)
  obtain ⟨w3, hw3⟩ : ∃ x, w2.drewN nq = x := ⟨_, rfl⟩
  have HR3 : Hid (R6 w3 b me ot st hd sd now) := by rw [← hw3]; exact HR2.out.below (below_drewN (Below.refl _ _) _)
  have HO3 : Hid (Only [b] w w3) := by rw [← hw3]; exact HO2.out.drewN _
  rw [hw3]
  clear hw3 HR2 HO2 y0 y1 y2 y3 y4 y5 n0 n1 n2
  obtain ⟨y0, y1, y2, y3, y4, y5⟩ := HR3.out.cells
  have n0 : w3.cell? ⟨g, o, none⟩ = some (.int .i64 2) := cell_only HM.out.1 HO3.out hgl hne
  have n1 : w3.cell? ⟨g, o + 1, none⟩ = some (.int .i64 f) := cell_only HM.out.2.1 HO3.out hgl hne
  have n2 : w3.cell? ⟨g, o + 2, none⟩ = some (.int .i64 y) := cell_only HM.out.2.2 HO3.out hgl hne
  go_wp2_with fail
  go_quiet (fail)
  obtain ⟨w4, hw4⟩ : ∃ x, w3.drewN nq = x := ⟨_, rfl⟩
  have HR4 : Hid (R6 w4 b me ot st hd sd now) := by rw [← hw4]; exact HR3.out.below (below_drewN (Below.refl _ _) _)
  have HO4 : Hid (Only [b] w w4) := by rw [← hw4]; exact HO3.out.drewN _
  rw [hw4]
  clear hw4 HR3 HO3 y0 y1 y2 y3 y4 y5 n0 n1 n2
  obtain ⟨y0, y1, y2, y3, y4, y5⟩ := HR4.out.cells
  have n0 : w4.cell? ⟨g, o, none⟩ = some (.int .i64 2) := cell_only HM.out.1 HO4.out hgl hne
  have n1 : w4.cell? ⟨g, o + 1, none⟩ = some (.int .i64 f) := cell_only HM.out.2.1 HO4.out hgl hne
  have n2 : w4.cell? ⟨g, o + 2, none⟩ = some (.int .i64 y) := cell_only HM.out.2.2 HO4.out hgl hne
  have HRz : Hid (R6 (w4) b me ot st hd sd now) := HR4.out
  have HOz : Hid (Only [b] w (w4)) := HO4.out
  go_wp2_with fail
  go_ret2
  exact ⟨rfl, HRz.out, HOz.out⟩
set_option maxHeartbeats 2000000 in
set_option maxRecDepth 100000 in
theorem rh_cold3m (b g o cap : Nat) (f y me ot st hd sd nw now : Int) (w : World) (h : R6 w b me ot st hd sd nw) (m0 : w.cell? ⟨g, o, none⟩ = some (.int .i64 3)) (m1 : w.cell? ⟨g, o + 1, none⟩ = some (.int .i64 f)) (m2 : w.cell? ⟨g, o + 2, none⟩ = some (.int .i64 y)) (ht : tf nw now = 0) (hne : g ≠ b) (hf0 : 1 ≤ f) (hf1 : f ≤ 1000000) (hy0 : 0 ≤ y) (hy1 : y ≤ 1000000) (hs : st ≠ 2) (hy : y = me) :
    Calls Tryd.prog 8 #[.pointer (some ⟨b, 0, none⟩), .slice (some ⟨g, o, none⟩) 3 cap, .int .i64 now] w fun e w' => e = .returned (.tuple #[.slice none 0 0, .int .i64 0]) ∧ R6 w' b me ot st hd sd now ∧ Only [b] w w' := by
  have HT := hidden (time_calls b nw now w h.cells.2.2.2.2.2)
  rw [ht] at HT
  clear ht
  have hgl : g < w.heap.size := World.block_lt_of_cell? w ⟨g, o, none⟩ m0
  have d0 : decide (f < 1) = false := decide_eq_false (by omega)
  have d1 : decide (1000000 < f) = false := decide_eq_false (by omega)
  have d2 : decide (y < 0) = false := decide_eq_false (by omega)
  have d3 : decide (1000000 < y) = false := decide_eq_false (by omega)
  have e0 : (st == 2) = false := by simpa using hs
  subst hy
  have HM := hidden (And.intro m0 (And.intro m1 m2))
  have HR0 := hidden h
  obtain ⟨z0, z1, z2, z3, z4, z5⟩ := h.cells
  have f5 := h.free 5
  clear h
  go_enter Tryd.func8, Tryd.ntmps8
  go_wp2_with fail
  refine HT.out.mono ?_
  rintro e w0 ⟨rfl, hw⟩
  obtain rfl := hw.symm
  clear HT
  go_wp2_with fail
  obtain ⟨w1, hw1⟩ : ∃ x, w.setCell ⟨b, 5, none⟩ (.int .i64 now) = x := ⟨_, rfl⟩
  have HR1 : Hid (R6 w1 b y ot st hd sd now) := by rw [← hw1]; exact HR0.out.set5 now
  have HO1 : Hid (Only [b] w w1) := by rw [← hw1]; exact (Only.refl _ _).setCell (by simp) _
  rw [hw1]
  clear hw1 z0 z1 z2 z3 z4 z5 f5 m0 m1 m2 HR0 d0 d1 d2 d3
  obtain ⟨y0, y1, y2, y3, y4, y5⟩ := HR1.out.cells
  have n0 : w1.cell? ⟨g, o, none⟩ = some (.int .i64 3) := cell_only HM.out.1 HO1.out hgl hne
  have n1 : w1.cell? ⟨g, o + 1, none⟩ = some (.int .i64 f) := cell_only HM.out.2.1 HO1.out hgl hne
  have n2 : w1.cell? ⟨g, o + 2, none⟩ = some (.int .i64 y) := cell_only HM.out.2.2 HO1.out hgl hne
  go_quiet (fail)
  obtain ⟨w2, hw2⟩ : ∃ x, w1.drewN nq = x := ⟨_, rfl⟩
  have HR2 : Hid (R6 w2 b y ot st hd sd now) := by rw [← hw2]; exact HR1.out.below (below_drewN (Below.refl _ _) _)
  have HO2 : Hid (Only [b] w w2) := by rw [← hw2]; exact HO1.out.drewN _
  rw [hw2]
  clear hw2 HR1 HO1 y0 y1 y2 y3 y4 y5 n0 n1 n2
  obtain ⟨y0, y1, y2, y3, y4, y5⟩ := HR2.out.cells
  have n0 : w2.cell? ⟨g, o, none⟩ = some (.int .i64 3) := cell_only HM.out.1 HO2.out hgl hne
  have n1 : w2.cell? ⟨g, o + 1, none⟩ = some (.int .i64 f) := cell_only HM.out.2.1 HO2.out hgl hne
  have n2 : w2.cell? ⟨g, o + 2, none⟩ = some (.int .i64 y) := cell_only HM.out.2.2 HO2.out hgl hne
  go_wp2_with fail
  go_quiet (fail)
  obtain ⟨w3, hw3⟩ : ∃ x, w2.drewN nq = x := ⟨_, rfl⟩
  have HR3 : Hid (R6 w3 b y ot st hd sd now) := by rw [← hw3]; exact HR2.out.below (below_drewN (Below.refl _ _) _)
  have HO3 : Hid (Only [b] w w3) := by rw [← hw3]; exact HO2.out.drewN _
  rw [hw3]
  clear hw3 HR2 HO2 y0 y1 y2 y3 y4 y5 n0 n1 n2
  obtain ⟨y0, y1, y2, y3, y4, y5⟩ := HR3.out.cells
  have n0 : w3.cell? ⟨g, o, none⟩ = some (.int .i64 3) := cell_only HM.out.1 HO3.out hgl hne
  have n1 : w3.cell? ⟨g, o + 1, none⟩ = some (.int .i64 f) := cell_only HM.out.2.1 HO3.out hgl hne
  have n2 : w3.cell? ⟨g, o + 2, none⟩ = some (.int .i64 y) := cell_only HM.out.2.2 HO3.out hgl hne
  go_wp2_with fail
  go_quiet (fail)
  obtain ⟨w4, hw4⟩ : ∃ x, w3.drewN nq = x := ⟨_, rfl⟩
  have HR4 : Hid (R6 w4 b y ot st hd sd now) := by rw [← hw4]; exact HR3.out.below (below_drewN (Below.refl _ _) _)
  have HO4 : Hid (Only [b] w w4) := by rw [← hw4]; exact HO3.out.drewN _
  rw [hw4]
  clear hw4 HR3 HO3 y0 y1 y2 y3 y4 y5 n0 n1 n2
  obtain ⟨y0, y1, y2, y3, y4, y5⟩ := HR4.out.cells
  have n0 : w4.cell? ⟨g, o, none⟩ = some (.int .i64 3) := cell_only HM.out.1 HO4.out hgl hne
  have n1 : w4.cell? ⟨g, o + 1, none⟩ = some (.int .i64 f) := cell_only HM.out.2.1 HO4.out hgl hne
  have n2 : w4.cell? ⟨g, o + 2, none⟩ = some (.int .i64 y) := cell_only HM.out.2.2 HO4.out hgl hne
  have HRz : Hid (R6 (w4) b y ot st hd sd now) := HR4.out
  have HOz : Hid (Only [b] w (w4)) := HO4.out
  go_wp2_with fail
  go_ret2
  exact ⟨rfl, HRz.out, HOz.out⟩
set_option maxHeartbeats 2000000 in
set_option maxRecDepth 100000 in
theorem rh_cold3x (b g o cap : Nat) (f y me ot st hd sd nw now : Int) (w : World) (h : R6 w b me ot st hd sd nw) (m0 : w.cell? ⟨g, o, none⟩ = some (.int .i64 3)) (m1 : w.cell? ⟨g, o + 1, none⟩ = some (.int .i64 f)) (m2 : w.cell? ⟨g, o + 2, none⟩ = some (.int .i64 y)) (ht : tf nw now = 0) (hne : g ≠ b) (hf0 : 1 ≤ f) (hf1 : f ≤ 1000000) (hy0 : 0 ≤ y) (hy1 : y ≤ 1000000) (hs : st ≠ 2) (hy : y ≠ me) :
    Calls Tryd.prog 8 #[.pointer (some ⟨b, 0, none⟩), .slice (some ⟨g, o, none⟩) 3 cap, .int .i64 now] w fun e w' => e = .returned (.tuple #[.slice none 0 0, .int .i64 0]) ∧ R6 w' b me ot st hd sd now ∧ Only [b] w w' := by
  have HT := hidden (time_calls b nw now w h.cells.2.2.2.2.2)
  rw [ht] at HT
  clear ht
  have hgl : g < w.heap.size := World.block_lt_of_cell? w ⟨g, o, none⟩ m0
  have d0 : decide (f < 1) = false := decide_eq_false (by omega)
  have d1 : decide (1000000 < f) = false := decide_eq_false (by omega)
  have d2 : decide (y < 0) = false := decide_eq_false (by omega)
  have d3 : decide (1000000 < y) = false := decide_eq_false (by omega)
  have e0 : (st == 2) = false := by simpa using hs
  have e3 : (y == me) = false := by simpa using hy
  have e4 : (y != me) = true := by simpa using hy
  have HM := hidden (And.intro m0 (And.intro m1 m2))
  have HR0 := hidden h
  obtain ⟨z0, z1, z2, z3, z4, z5⟩ := h.cells
  have f5 := h.free 5
  clear h
  go_enter Tryd.func8, Tryd.ntmps8
  go_wp2_with fail
  refine HT.out.mono ?_
  rintro e w0 ⟨rfl, hw⟩
  obtain rfl := hw.symm
  clear HT
  go_wp2_with fail
  obtain ⟨w1, hw1⟩ : ∃ x, w.setCell ⟨b, 5, none⟩ (.int .i64 now) = x := ⟨_, rfl⟩
  have HR1 : Hid (R6 w1 b me ot st hd sd now) := by rw [← hw1]; exact HR0.out.set5 now
  have HO1 : Hid (Only [b] w w1) := by rw [← hw1]; exact (Only.refl _ _).setCell (by simp) _
  rw [hw1]
  clear hw1 z0 z1 z2 z3 z4 z5 f5 m0 m1 m2 HR0 d0 d1 d2 d3
  obtain ⟨y0, y1, y2, y3, y4, y5⟩ := HR1.out.cells
  have n0 : w1.cell? ⟨g, o, none⟩ = some (.int .i64 3) := cell_only HM.out.1 HO1.out hgl hne
  have n1 : w1.cell? ⟨g, o + 1, none⟩ = some (.int .i64 f) := cell_only HM.out.2.1 HO1.out hgl hne
  have n2 : w1.cell? ⟨g, o + 2, none⟩ = some (.int .i64 y) := cell_only HM.out.2.2 HO1.out hgl hne
  go_quiet (fail)
  obtain ⟨w2, hw2⟩ : ∃ x, w1.drewN nq = x := ⟨_, rfl⟩
  have HR2 : Hid (R6 w2 b me ot st hd sd now) := by rw [← hw2]; exact HR1.out.below (below_drewN (Below.refl _ _) _)
  have HO2 : Hid (Only [b] w w2) := by rw [← hw2]; exact HO1.out.drewN _
  rw [hw2]
  clear hw2 HR1 HO1 y0 y1 y2 y3 y4 y5 n0 n1 n2
  obtain ⟨y0, y1, y2, y3, y4, y5⟩ := HR2.out.cells
  have n0 : w2.cell? ⟨g, o, none⟩ = some (.int .i64 3) := cell_only HM.out.1 HO2.out hgl hne
  have n1 : w2.cell? ⟨g, o + 1, none⟩ = some (.int .i64 f) := cell_only HM.out.2.1 HO2.out hgl hne
  have n2 : w2.cell? ⟨g, o + 2, none⟩ = some (.int .i64 y) := cell_only HM.out.2.2 HO2.out hgl hne
  go_wp2_with fail
  go_quiet (fail)
  obtain ⟨w3, hw3⟩ : ∃ x, w2.drewN nq = x := ⟨_, rfl⟩
  have HR3 : Hid (R6 w3 b me ot st hd sd now) := by rw [← hw3]; exact HR2.out.below (below_drewN (Below.refl _ _) _)
  have HO3 : Hid (Only [b] w w3) := by rw [← hw3]; exact HO2.out.drewN _
  rw [hw3]
  clear hw3 HR2 HO2 y0 y1 y2 y3 y4 y5 n0 n1 n2
  obtain ⟨y0, y1, y2, y3, y4, y5⟩ := HR3.out.cells
  have n0 : w3.cell? ⟨g, o, none⟩ = some (.int .i64 3) := cell_only HM.out.1 HO3.out hgl hne
  have n1 : w3.cell? ⟨g, o + 1, none⟩ = some (.int .i64 f) := cell_only HM.out.2.1 HO3.out hgl hne
  have n2 : w3.cell? ⟨g, o + 2, none⟩ = some (.int .i64 y) := cell_only HM.out.2.2 HO3.out hgl hne
  go_wp2_with fail
  go_quiet (fail)
  obtain ⟨w4, hw4⟩ : ∃ x, w3.drewN nq = x := ⟨_, rfl⟩
  have HR4 : Hid (R6 w4 b me ot st hd sd now) := by rw [← hw4]; exact HR3.out.below (below_drewN (Below.refl _ _) _)
  have HO4 : Hid (Only [b] w w4) := by rw [← hw4]; exact HO3.out.drewN _
  rw [hw4]
  clear hw4 HR3 HO3 y0 y1 y2 y3 y4 y5 n0 n1 n2
  obtain ⟨y0, y1, y2, y3, y4, y5⟩ := HR4.out.cells
  have n0 : w4.cell? ⟨g, o, none⟩ = some (.int .i64 3) := cell_only HM.out.1 HO4.out hgl hne
  have n1 : w4.cell? ⟨g, o + 1, none⟩ = some (.int .i64 f) := cell_only HM.out.2.1 HO4.out hgl hne
  have n2 : w4.cell? ⟨g, o + 2, none⟩ = some (.int .i64 y) := cell_only HM.out.2.2 HO4.out hgl hne
  have HRz : Hid (R6 (w4) b me ot st hd sd now) := HR4.out
  have HOz : Hid (Only [b] w (w4)) := HO4.out
  go_wp2_with fail
  go_ret2
  exact ⟨rfl, HRz.out, HOz.out⟩
set_option maxHeartbeats 2000000 in
set_option maxRecDepth 100000 in
theorem rh_old1m (b g o cap : Nat) (f y me ot st hd sd nw now : Int) (w : World) (h : R6 w b me ot st hd sd nw) (m0 : w.cell? ⟨g, o, none⟩ = some (.int .i64 1)) (m1 : w.cell? ⟨g, o + 1, none⟩ = some (.int .i64 f)) (m2 : w.cell? ⟨g, o + 2, none⟩ = some (.int .i64 y)) (ht : tf nw now = 0) (hne : g ≠ b) (hf0 : 1 ≤ f) (hf1 : f ≤ 1000000) (hy0 : 0 ≤ y) (hy1 : y ≤ 1000000) (hs : st = 2) (hf : f < ot) :
    Calls Tryd.prog 8 #[.pointer (some ⟨b, 0, none⟩), .slice (some ⟨g, o, none⟩) 3 cap, .int .i64 now] w fun e w' => e = .returned (.tuple #[.slice none 0 0, .int .i64 0]) ∧ R6 w' b me ot 2 hd sd now ∧ Only [b] w w' := by
  have HT := hidden (time_calls b nw now w h.cells.2.2.2.2.2)
  rw [ht] at HT
  clear ht
  have hgl : g < w.heap.size := World.block_lt_of_cell? w ⟨g, o, none⟩ m0
  have d0 : decide (f < 1) = false := decide_eq_false (by omega)
  have d1 : decide (1000000 < f) = false := decide_eq_false (by omega)
  have d2 : decide (y < 0) = false := decide_eq_false (by omega)
  have d3 : decide (1000000 < y) = false := decide_eq_false (by omega)
  subst hs
  have e1 : decide (f < ot) = true := decide_eq_true hf
  have e2 : (f == ot) = false := by simp; omega
  have HM := hidden (And.intro m0 (And.intro m1 m2))
  have HR0 := hidden h
  obtain ⟨z0, z1, z2, z3, z4, z5⟩ := h.cells
  have f5 := h.free 5
  clear h
  go_enter Tryd.func8, Tryd.ntmps8
  go_wp2_with fail
  refine HT.out.mono ?_
  rintro e w0 ⟨rfl, hw⟩
  obtain rfl := hw.symm
  clear HT
  go_wp2_with fail
  obtain ⟨w1, hw1⟩ : ∃ x, w.setCell ⟨b, 5, none⟩ (.int .i64 now) = x := ⟨_, rfl⟩
  have HR1 : Hid (R6 w1 b me ot 2 hd sd now) := by rw [← hw1]; exact HR0.out.set5 now
  have HO1 : Hid (Only [b] w w1) := by rw [← hw1]; exact (Only.refl _ _).setCell (by simp) _
  rw [hw1]
  clear hw1 z0 z1 z2 z3 z4 z5 f5 m0 m1 m2 HR0 d0 d1 d2 d3
  obtain ⟨y0, y1, y2, y3, y4, y5⟩ := HR1.out.cells
  have n0 : w1.cell? ⟨g, o, none⟩ = some (.int .i64 1) := cell_only HM.out.1 HO1.out hgl hne
  have n1 : w1.cell? ⟨g, o + 1, none⟩ = some (.int .i64 f) := cell_only HM.out.2.1 HO1.out hgl hne
  have n2 : w1.cell? ⟨g, o + 2, none⟩ = some (.int .i64 y) := cell_only HM.out.2.2 HO1.out hgl hne
  go_quiet (fail)
  obtain ⟨w2, hw2⟩ : ∃ x, w1.drewN nq = x := ⟨_, rfl⟩
  have HR2 : Hid (R6 w2 b me ot 2 hd sd now) := by rw [← hw2]; exact HR1.out.below (below_drewN (Below.refl _ _) _)
  have HO2 : Hid (Only [b] w w2) := by rw [← hw2]; exact HO1.out.drewN _
  rw [hw2]
  clear hw2 HR1 HO1 y0 y1 y2 y3 y4 y5 n0 n1 n2
  obtain ⟨y0, y1, y2, y3, y4, y5⟩ := HR2.out.cells
  have n0 : w2.cell? ⟨g, o, none⟩ = some (.int .i64 1) := cell_only HM.out.1 HO2.out hgl hne
  have n1 : w2.cell? ⟨g, o + 1, none⟩ = some (.int .i64 f) := cell_only HM.out.2.1 HO2.out hgl hne
  have n2 : w2.cell? ⟨g, o + 2, none⟩ = some (.int .i64 y) := cell_only HM.out.2.2 HO2.out hgl hne
  go_wp2_with fail
  go_quiet (fail)
  obtain ⟨w3, hw3⟩ : ∃ x, w2.drewN nq = x := ⟨_, rfl⟩
  have HR3 : Hid (R6 w3 b me ot 2 hd sd now) := by rw [← hw3]; exact HR2.out.below (below_drewN (Below.refl _ _) _)
  have HO3 : Hid (Only [b] w w3) := by rw [← hw3]; exact HO2.out.drewN _
  rw [hw3]
  clear hw3 HR2 HO2 y0 y1 y2 y3 y4 y5 n0 n1 n2
  obtain ⟨y0, y1, y2, y3, y4, y5⟩ := HR3.out.cells
  have n0 : w3.cell? ⟨g, o, none⟩ = some (.int .i64 1) := cell_only HM.out.1 HO3.out hgl hne
  have n1 : w3.cell? ⟨g, o + 1, none⟩ = some (.int .i64 f) := cell_only HM.out.2.1 HO3.out hgl hne
  have n2 : w3.cell? ⟨g, o + 2, none⟩ = some (.int .i64 y) := cell_only HM.out.2.2 HO3.out hgl hne
  have HRz : Hid (R6 (w3) b me ot 2 hd sd now) := HR3.out
  have HOz : Hid (Only [b] w (w3)) := HO3.out
  go_wp2_with fail
  go_ret2
  exact ⟨rfl, HRz.out, HOz.out⟩
set_option maxHeartbeats 2000000 in
set_option maxRecDepth 100000 in
theorem rh_old2m (b g o cap : Nat) (f y me ot st hd sd nw now : Int) (w : World) (h : R6 w b me ot st hd sd nw) (m0 : w.cell? ⟨g, o, none⟩ = some (.int .i64 2)) (m1 : w.cell? ⟨g, o + 1, none⟩ = some (.int .i64 f)) (m2 : w.cell? ⟨g, o + 2, none⟩ = some (.int .i64 y)) (ht : tf nw now = 0) (hne : g ≠ b) (hf0 : 1 ≤ f) (hf1 : f ≤ 1000000) (hy0 : 0 ≤ y) (hy1 : y ≤ 1000000) (hs : st = 2) (hf : f < ot) (hy : y = me) :
    Calls Tryd.prog 8 #[.pointer (some ⟨b, 0, none⟩), .slice (some ⟨g, o, none⟩) 3 cap, .int .i64 now] w fun e w' => e = .returned (.tuple #[.slice none 0 0, .int .i64 0]) ∧ R6 w' b me ot 2 hd sd now ∧ Only [b] w w' := by
  have HT := hidden (time_calls b nw now w h.cells.2.2.2.2.2)
  rw [ht] at HT
  clear ht
  have hgl : g < w.heap.size := World.block_lt_of_cell? w ⟨g, o, none⟩ m0
  have d0 : decide (f < 1) = false := decide_eq_false (by omega)
  have d1 : decide (1000000 < f) = false := decide_eq_false (by omega)
  have d2 : decide (y < 0) = false := decide_eq_false (by omega)
  have d3 : decide (1000000 < y) = false := decide_eq_false (by omega)
  subst hs
  have e1 : decide (f < ot) = true := decide_eq_true hf
  have e2 : (f == ot) = false := by simp; omega
  subst hy
  have HM := hidden (And.intro m0 (And.intro m1 m2))
  have HR0 := hidden h
  obtain ⟨z0, z1, z2, z3, z4, z5⟩ := h.cells
  have f5 := h.free 5
  clear h
  go_enter Tryd.func8, Tryd.ntmps8
  go_wp2_with fail
  refine HT.out.mono ?_
  rintro e w0 ⟨rfl, hw⟩
  obtain rfl := hw.symm
  clear HT
  go_wp2_with fail
  obtain ⟨w1, hw1⟩ : ∃ x, w.setCell ⟨b, 5, none⟩ (.int .i64 now) = x := ⟨_, rfl⟩
  have HR1 : Hid (R6 w1 b y ot 2 hd sd now) := by rw [← hw1]; exact HR0.out.set5 now
  have HO1 : Hid (Only [b] w w1) := by rw [← hw1]; exact (Only.refl _ _).setCell (by simp) _
  rw [hw1]
  clear hw1 z0 z1 z2 z3 z4 z5 f5 m0 m1 m2 HR0 d0 d1 d2 d3
  obtain ⟨y0, y1, y2, y3, y4, y5⟩ := HR1.out.cells
  have n0 : w1.cell? ⟨g, o, none⟩ = some (.int .i64 2) := cell_only HM.out.1 HO1.out hgl hne
  have n1 : w1.cell? ⟨g, o + 1, none⟩ = some (.int .i64 f) := cell_only HM.out.2.1 HO1.out hgl hne
  have n2 : w1.cell? ⟨g, o + 2, none⟩ = some (.int .i64 y) := cell_only HM.out.2.2 HO1.out hgl hne
  go_quiet (fail)
  obtain ⟨w2, hw2⟩ : ∃ x, w1.drewN nq = x := ⟨_, rfl⟩
  have HR2 : Hid (R6 w2 b y ot 2 hd sd now) := by rw [← hw2]; exact HR1.out.below (below_drewN (Below.refl _ _) _)
  have HO2 : Hid (Only [b] w w2) := by rw [← hw2]; exact HO1.out.drewN _
  rw [hw2]
  clear hw2 HR1 HO1 y0 y1 y2 y3 y4 y5 n0 n1 n2
  obtain ⟨y0, y1, y2, y3, y4, y5⟩ := HR2.out.cells
  have n0 : w2.cell? ⟨g, o, none⟩ = some (.int .i64 2) := cell_only HM.out.1 HO2.out hgl hne
  have n1 : w2.cell? ⟨g, o + 1, none⟩ = some (.int .i64 f) := cell_only HM.out.2.1 HO2.out hgl hne
  have n2 : w2.cell? ⟨g, o + 2, none⟩ = some (.int .i64 y) := cell_only HM.out.2.2 HO2.out hgl hne
  go_wp2_with fail
  go_quiet (fail)
  obtain ⟨w3, hw3⟩ : ∃ x, w2.drewN nq = x := ⟨_, rfl⟩
  have HR3 : Hid (R6 w3 b y ot 2 hd sd now) := by rw [← hw3]; exact HR2.out.below (below_drewN (Below.refl _ _) _)
  have HO3 : Hid (Only [b] w w3) := by rw [← hw3]; exact HO2.out.drewN _
  rw [hw3]
  clear hw3 HR2 HO2 y0 y1 y2 y3 y4 y5 n0 n1 n2
  obtain ⟨y0, y1, y2, y3, y4, y5⟩ := HR3.out.cells
  have n0 : w3.cell? ⟨g, o, none⟩ = some (.int .i64 2) := cell_only HM.out.1 HO3.out hgl hne
  have n1 : w3.cell? ⟨g, o + 1, none⟩ = some (.int .i64 f) := cell_only HM.out.2.1 HO3.out hgl hne
  have n2 : w3.cell? ⟨g, o + 2, none⟩ = some (.int .i64 y) := cell_only HM.out.2.2 HO3.out hgl hne
  go_wp2_with fail
  go_quiet (fail)
  obtain ⟨w4, hw4⟩ : ∃ x, w3.drewN nq = x := ⟨_, rfl⟩
  have HR4 : Hid (R6 w4 b y ot 2 hd sd now) := by rw [← hw4]; exact HR3.out.below (below_drewN (Below.refl _ _) _)
  have HO4 : Hid (Only [b] w w4) := by rw [← hw4]; exact HO3.out.drewN _
  rw [hw4]
  clear hw4 HR3 HO3 y0 y1 y2 y3 y4 y5 n0 n1 n2
  obtain ⟨y0, y1, y2, y3, y4, y5⟩ := HR4.out.cells
  have n0 : w4.cell? ⟨g, o, none⟩ = some (.int .i64 2) := cell_only HM.out.1 HO4.out hgl hne
  have n1 : w4.cell? ⟨g, o + 1, none⟩ = some (.int .i64 f) := cell_only HM.out.2.1 HO4.out hgl hne
  have n2 : w4.cell? ⟨g, o + 2, none⟩ = some (.int .i64 y) := cell_only HM.out.2.2 HO4.out hgl hne
  have HRz : Hid (R6 (w4) b y ot 2 hd sd now) := HR4.out
  have HOz : Hid (Only [b] w (w4)) := HO4.out
  go_wp2_with fail
  go_ret2
  exact ⟨rfl, HRz.out, HOz.out⟩
set_option maxHeartbeats 2000000 in
set_option maxRecDepth 100000 in
theorem rh_old2x (b g o cap : Nat) (f y me ot st hd sd nw now : Int) (w : World) (h : R6 w b me ot st hd sd nw) (m0 : w.cell? ⟨g, o, none⟩ = some (.int .i64 2)) (m1 : w.cell? ⟨g, o + 1, none⟩ = some (.int .i64 f)) (m2 : w.cell? ⟨g, o + 2, none⟩ = some (.int .i64 y)) (ht : tf nw now = 0) (hne : g ≠ b) (hf0 : 1 ≤ f) (hf1 : f ≤ 1000000) (hy0 : 0 ≤ y) (hy1 : y ≤ 1000000) (hs : st = 2) (hf : f < ot) (hy : y ≠ me) :
    Calls Tryd.prog 8 #[.pointer (some ⟨b, 0, none⟩), .slice (some ⟨g, o, none⟩) 3 cap, .int .i64 now] w fun e w' => e = .returned (.tuple #[.slice none 0 0, .int .i64 0]) ∧ R6 w' b me ot 2 hd sd now ∧ Only [b] w w' := by
  have HT := hidden (time_calls b nw now w h.cells.2.2.2.2.2)
  rw [ht] at HT
  clear ht
  have hgl : g < w.heap.size := World.block_lt_of_cell? w ⟨g, o, none⟩ m0
  have d0 : decide (f < 1) = false := decide_eq_false (by omega)
  have d1 : decide (1000000 < f) = false := decide_eq_false (by omega)
  have d2 : decide (y < 0) = false := decide_eq_false (by omega)
  have d3 : decide (1000000 < y) = false := decide_eq_false (by omega)
  subst hs
  have e1 : decide (f < ot) = true := decide_eq_true hf
  have e2 : (f == ot) = false := by simp; omega
  have e3 : (y == me) = false := by simpa using hy
  have e4 : (y != me) = true := by simpa using hy
  have HM := hidden (And.intro m0 (And.intro m1 m2))
  have HR0 := hidden h
  obtain ⟨z0, z1, z2, z3, z4, z5⟩ := h.cells
  have f5 := h.free 5
  clear h
  go_enter Tryd.func8, Tryd.ntmps8
  go_wp2_with fail
  refine HT.out.mono ?_
  rintro e w0 ⟨rfl, hw⟩
  obtain rfl := hw.symm
  clear HT
  go_wp2_with fail
  obtain ⟨w1, hw1⟩ : ∃ x, w.setCell ⟨b, 5, none⟩ (.int .i64 now) = x := ⟨_, rfl⟩
  have HR1 : Hid (R6 w1 b me ot 2 hd sd now) := by rw [← hw1]; exact HR0.out.set5 now
  have HO1 : Hid (Only [b] w w1) := by rw [← hw1]; exact (Only.refl _ _).setCell (by simp) _
  rw [hw1]
  clear hw1 z0 z1 z2 z3 z4 z5 f5 m0 m1 m2 HR0 d0 d1 d2 d3
  obtain ⟨y0, y1, y2, y3, y4, y5⟩ := HR1.out.cells
  have n0 : w1.cell? ⟨g, o, none⟩ = some (.int .i64 2) := cell_only HM.out.1 HO1.out hgl hne
  have n1 : w1.cell? ⟨g, o + 1, none⟩ = some (.int .i64 f) := cell_only HM.out.2.1 HO1.out hgl hne
  have n2 : w1.cell? ⟨g, o + 2, none⟩ = some (.int .i64 y) := cell_only HM.out.2.2 HO1.out hgl hne
  go_quiet (fail)
  obtain ⟨w2, hw2⟩ : ∃ x, w1.drewN nq = x := ⟨_, rfl⟩
  have HR2 : Hid (R6 w2 b me ot 2 hd sd now) := by rw [← hw2]; exact HR1.out.below (below_drewN (Below.refl _ _) _)
  have HO2 : Hid (Only [b] w w2) := by rw [← hw2]; exact HO1.out.drewN _
  rw [hw2]
  clear hw2 HR1 HO1 y0 y1 y2 y3 y4 y5 n0 n1 n2
  obtain ⟨y0, y1, y2, y3, y4, y5⟩ := HR2.out.cells
  have n0 : w2.cell? ⟨g, o, none⟩ = some (.int .i64 2) := cell_only HM.out.1 HO2.out hgl hne
  have n1 : w2.cell? ⟨g, o + 1, none⟩ = some (.int .i64 f) := cell_only HM.out.2.1 HO2.out hgl hne
  have n2 : w2.cell? ⟨g, o + 2, none⟩ = some (.int .i64 y) := cell_only HM.out.2.2 HO2.out hgl hne
  go_wp2_with fail
  go_quiet (fail)
  obtain ⟨w3, hw3⟩ : ∃ x, w2.drewN nq = x := ⟨_, rfl⟩
  have HR3 : Hid (R6 w3 b me ot 2 hd sd now) := by rw [← hw3]; exact HR2.out.below (below_drewN (Below.refl _ _) _)
  have HO3 : Hid (Only [b] w w3) := by rw [← hw3]; exact HO2.out.drewN _
  rw [hw3]
  clear hw3 HR2 HO2 y0 y1 y2 y3 y4 y5 n0 n1 n2
  obtain ⟨y0, y1, y2, y3, y4, y5⟩ := HR3.out.cells
  have n0 : w3.cell? ⟨g, o, none⟩ = some (.int .i64 2) := cell_only HM.out.1 HO3.out hgl hne
  have n1 : w3.cell? ⟨g, o + 1, none⟩ = some (.int .i64 f) := cell_only HM.out.2.1 HO3.out hgl hne
  have n2 : w3.cell? ⟨g, o + 2, none⟩ = some (.int .i64 y) := cell_only HM.out.2.2 HO3.out hgl hne
  go_wp2_with fail
  go_quiet (fail)
  obtain ⟨w4, hw4⟩ : ∃ x, w3.drewN nq = x := ⟨_, rfl⟩
  have HR4 : Hid (R6 w4 b me ot 2 hd sd now) := by rw [← hw4]; exact HR3.out.below (below_drewN (Below.refl _ _) _)
  have HO4 : Hid (Only [b] w w4) := by rw [← hw4]; exact HO3.out.drewN _
  rw [hw4]
  clear hw4 HR3 HO3 y0 y1 y2 y3 y4 y5 n0 n1 n2
  obtain ⟨y0, y1, y2, y3, y4, y5⟩ := HR4.out.cells
  have n0 : w4.cell? ⟨g, o, none⟩ = some (.int .i64 2) := cell_only HM.out.1 HO4.out hgl hne
  have n1 : w4.cell? ⟨g, o + 1, none⟩ = some (.int .i64 f) := cell_only HM.out.2.1 HO4.out hgl hne
  have n2 : w4.cell? ⟨g, o + 2, none⟩ = some (.int .i64 y) := cell_only HM.out.2.2 HO4.out hgl hne
  have HRz : Hid (R6 (w4) b me ot 2 hd sd now) := HR4.out
  have HOz : Hid (Only [b] w (w4)) := HO4.out
  go_wp2_with fail
  go_ret2
  exact ⟨rfl, HRz.out, HOz.out⟩
set_option maxHeartbeats 2000000 in
set_option maxRecDepth 100000 in
theorem rh_old3m (b g o cap : Nat) (f y me ot st hd sd nw now : Int) (w : World) (h : R6 w b me ot st hd sd nw) (m0 : w.cell? ⟨g, o, none⟩ = some (.int .i64 3)) (m1 : w.cell? ⟨g, o + 1, none⟩ = some (.int .i64 f)) (m2 : w.cell? ⟨g, o + 2, none⟩ = some (.int .i64 y)) (ht : tf nw now = 0) (hne : g ≠ b) (hf0 : 1 ≤ f) (hf1 : f ≤ 1000000) (hy0 : 0 ≤ y) (hy1 : y ≤ 1000000) (hs : st = 2) (hf : f < ot) (hy : y = me) :
    Calls Tryd.prog 8 #[.pointer (some ⟨b, 0, none⟩), .slice (some ⟨g, o, none⟩) 3 cap, .int .i64 now] w fun e w' => e = .returned (.tuple #[.slice none 0 0, .int .i64 0]) ∧ R6 w' b me ot 2 hd sd now ∧ Only [b] w w' := by
  have HT := hidden (time_calls b nw now w h.cells.2.2.2.2.2)
  rw [ht] at HT
  clear ht
  have hgl : g < w.heap.size := World.block_lt_of_cell? w ⟨g, o, none⟩ m0
  have d0 : decide (f < 1) = false := decide_eq_false (by omega)
  have d1 : decide (1000000 < f) = false := decide_eq_false (by omega)
  have d2 : decide (y < 0) = false := decide_eq_false (by omega)
  have d3 : decide (1000000 < y) = false := decide_eq_false (by omega)
  subst hs
  have e1 : decide (f < ot) = true := decide_eq_true hf
  have e2 : (f == ot) = false := by simp; omega
  subst hy
  have HM := hidden (And.intro m0 (And.intro m1 m2))
  have HR0 := hidden h
  obtain ⟨z0, z1, z2, z3, z4, z5⟩ := h.cells
  have f5 := h.free 5
  clear h
  go_enter Tryd.func8, Tryd.ntmps8
  go_wp2_with fail
  refine HT.out.mono ?_
  rintro e w0 ⟨rfl, hw⟩
  obtain rfl := hw.symm
  clear HT
  go_wp2_with fail
  obtain ⟨w1, hw1⟩ : ∃ x, w.setCell ⟨b, 5, none⟩ (.int .i64 now) = x := ⟨_, rfl⟩
  have HR1 : Hid (R6 w1 b y ot 2 hd sd now) := by rw [← hw1]; exact HR0.out.set5 now
  have HO1 : Hid (Only [b] w w1) := by rw [← hw1]; exact (Only.refl _ _).setCell (by simp) _
  rw [hw1]
  clear hw1 z0 z1 z2 z3 z4 z5 f5 m0 m1 m2 HR0 d0 d1 d2 d3
  obtain ⟨y0, y1, y2, y3, y4, y5⟩ := HR1.out.cells
  have n0 : w1.cell? ⟨g, o, none⟩ = some (.int .i64 3) := cell_only HM.out.1 HO1.out hgl hne
  have n1 : w1.cell? ⟨g, o + 1, none⟩ = some (.int .i64 f) := cell_only HM.out.2.1 HO1.out hgl hne
  have n2 : w1.cell? ⟨g, o + 2, none⟩ = some (.int .i64 y) := cell_only HM.out.2.2 HO1.out hgl hne
  go_quiet (fail)
  obtain ⟨w2, hw2⟩ : ∃ x, w1.drewN nq = x := ⟨_, rfl⟩
  have HR2 : Hid (R6 w2 b y ot 2 hd sd now) := by rw [← hw2]; exact HR1.out.below (below_drewN (Below.refl _ _) _)
  have HO2 : Hid (Only [b] w w2) := by rw [← hw2]; exact HO1.out.drewN _
  rw [hw2]
  clear hw2 HR1 HO1 y0 y1 y2 y3 y4 y5 n0 n1 n2
  obtain ⟨y0, y1, y2, y3, y4, y5⟩ := HR2.out.cells
  have n0 : w2.cell? ⟨g, o, none⟩ = some (.int .i64 3) := cell_only HM.out.1 HO2.out hgl hne
  have n1 : w2.cell? ⟨g, o + 1, none⟩ = some (.int .i64 f) := cell_only HM.out.2.1 HO2.out hgl hne
  have n2 : w2.cell? ⟨g, o + 2, none⟩ = some (.int .i64 y) := cell_only HM.out.2.2 HO2.out hgl hne
  go_wp2_with fail
  go_quiet (fail)
  obtain ⟨w3, hw3⟩ : ∃ x, w2.drewN nq = x := ⟨_, rfl⟩
  have HR3 : Hid (R6 w3 b y ot 2 hd sd now) := by rw [← hw3]; exact HR2.out.below (below_drewN (Below.refl _ _) _)
  have HO3 : Hid (Only [b] w w3) := by rw [← hw3]; exact HO2.out.drewN _
  rw [hw3]
  clear hw3 HR2 HO2 y0 y1 y2 y3 y4 y5 n0 n1 n2
  obtain ⟨y0, y1, y2, y3, y4, y5⟩ := HR3.out.cells
  have n0 : w3.cell? ⟨g, o, none⟩ = some (.int .i64 3) := cell_only HM.out.1 HO3.out hgl hne
  have n1 : w3.cell? ⟨g, o + 1, none⟩ = some (.int .i64 f) := cell_only HM.out.2.1 HO3.out hgl hne
  have n2 : w3.cell? ⟨g, o + 2, none⟩ = some (.int .i64 y) := cell_only HM.out.2.2 HO3.out hgl hne
  go_wp2_with fail
  go_quiet (fail)
  obtain ⟨w4, hw4⟩ : ∃ x, w3.drewN nq = x := ⟨_, rfl⟩
  have HR4 : Hid (R6 w4 b y ot 2 hd sd now) := by rw [← hw4]; exact HR3.out.below (below_drewN (Below.refl _ _) _)
  have HO4 : Hid (Only [b] w w4) := by rw [← hw4]; exact HO3.out.drewN _
  rw [hw4]
  clear hw4 HR3 HO3 y0 y1 y2 y3 y4 y5 n0 n1 n2
  obtain ⟨y0, y1, y2, y3, y4, y5⟩ := HR4.out.cells
  have n0 : w4.cell? ⟨g, o, none⟩ = some (.int .i64 3) := cell_only HM.out.1 HO4.out hgl hne
  have n1 : w4.cell? ⟨g, o + 1, none⟩ = some (.int .i64 f) := cell_only HM.out.2.1 HO4.out hgl hne
  have n2 : w4.cell? ⟨g, o + 2, none⟩ = some (.int .i64 y) := cell_only HM.out.2.2 HO4.out hgl hne
  have HRz : Hid (R6 (w4) b y ot 2 hd sd now) := HR4.out
  have HOz : Hid (Only [b] w (w4)) := HO4.out
  go_wp2_with fail
  go_ret2
  exact ⟨rfl, HRz.out, HOz.out⟩
set_option maxHeartbeats 2000000 in
set_option maxRecDepth 100000 in
theorem rh_old3x (b g o cap : Nat) (f y me ot st hd sd nw now : Int) (w : World) (h : R6 w b me ot st hd sd nw) (m0 : w.cell? ⟨g, o, none⟩ = some (.int .i64 3)) (m1 : w.cell? ⟨g, o + 1, none⟩ = some (.int .i64 f)) (m2 : w.cell? ⟨g, o + 2, none⟩ = some (.int .i64 y)) (ht : tf nw now = 0) (hne : g ≠ b) (hf0 : 1 ≤ f) (hf1 : f ≤ 1000000) (hy0 : 0 ≤ y) (hy1 : y ≤ 1000000) (hs : st = 2) (hf : f < ot) (hy : y ≠ me) :
    Calls Tryd.prog 8 #[.pointer (some ⟨b, 0, none⟩), .slice (some ⟨g, o, none⟩) 3 cap, .int .i64 now] w fun e w' => e = .returned (.tuple #[.slice none 0 0, .int .i64 0]) ∧ R6 w' b me ot 2 hd sd now ∧ Only [b] w w' := by
  have HT := hidden (time_calls b nw now w h.cells.2.2.2.2.2)
  rw [ht] at HT
  clear ht
  have hgl : g < w.heap.size := World.block_lt_of_cell? w ⟨g, o, none⟩ m0
  have d0 : decide (f < 1) = false := decide_eq_false (by omega)
  have d1 : decide (1000000 < f) = false := decide_eq_false (by omega)
  have d2 : decide (y < 0) = false := decide_eq_false (by omega)
  have d3 : decide (1000000 < y) = false := decide_eq_false (by omega)
  subst hs
  have e1 : decide (f < ot) = true := decide_eq_true hf
  have e2 : (f == ot) = false := by simp; omega
  have e3 : (y == me) = false := by simpa using hy
  have e4 : (y != me) = true := by simpa using hy
  have HM := hidden (And.intro m0 (And.intro m1 m2))
  have HR0 := hidden h
  obtain ⟨z0, z1, z2, z3, z4, z5⟩ := h.cells
  have f5 := h.free 5
  clear h
  go_enter Tryd.func8, Tryd.ntmps8
  go_wp2_with fail
  refine HT.out.mono ?_
  rintro e w0 ⟨rfl, hw⟩
  obtain rfl := hw.symm
  clear HT
  go_wp2_with fail
  obtain ⟨w1, hw1⟩ : ∃ x, w.setCell ⟨b, 5, none⟩ (.int .i64 now) = x := ⟨_, rfl⟩
  have HR1 : Hid (R6 w1 b me ot 2 hd sd now) := by rw [← hw1]; exact HR0.out.set5 now
  have HO1 : Hid (Only [b] w w1) := by rw [← hw1]; exact (Only.refl _ _).setCell (by simp) _
  rw [hw1]
  clear hw1 z0 z1 z2 z3 z4 z5 f5 m0 m1 m2 HR0 d0 d1 d2 d3
  obtain ⟨y0, y1, y2, y3, y4, y5⟩ := HR1.out.cells
  have n0 : w1.cell? ⟨g, o, none⟩ = some (.int .i64 3) := cell_only HM.out.1 HO1.out hgl hne
  have n1 : w1.cell? ⟨g, o + 1, none⟩ = some (.int .i64 f) := cell_only HM.out.2.1 HO1.out hgl hne
  have n2 : w1.cell? ⟨g, o + 2, none⟩ = some (.int .i64 y) := cell_only HM.out.2.2 HO1.out hgl hne
  go_quiet (fail)
  obtain ⟨w2, hw2⟩ : ∃ x, w1.drewN nq = x := ⟨_, rfl⟩
  have HR2 : Hid (R6 w2 b me ot 2 hd sd now) := by rw [← hw2]; exact HR1.out.below (below_drewN (Below.refl _ _) _)
  have HO2 : Hid (Only [b] w w2) := by rw [← hw2]; exact HO1.out.drewN _
  rw [hw2]
  clear hw2 HR1 HO1 y0 y1 y2 y3 y4 y5 n0 n1 n2
  obtain ⟨y0, y1, y2, y3, y4, y5⟩ := HR2.out.cells
  have n0 : w2.cell? ⟨g, o, none⟩ = some (.int .i64 3) := cell_only HM.out.1 HO2.out hgl hne
  have n1 : w2.cell? ⟨g, o + 1, none⟩ = some (.int .i64 f) := cell_only HM.out.2.1 HO2.out hgl hne
  have n2 : w2.cell? ⟨g, o + 2, none⟩ = some (.int .i64 y) := cell_only HM.out.2.2 HO2.out hgl hne
  go_wp2_with fail
  go_quiet (fail)
  obtain ⟨w3, hw3⟩ : ∃ x, w2.drewN nq = x := ⟨_, rfl⟩
  have HR3 : Hid (R6 w3 b me ot 2 hd sd now) := by rw [← hw3]; exact HR2.out.below (below_drewN (Below.refl _ _) _)
  have HO3 : Hid (Only [b] w w3) := by rw [← hw3]; exact HO2.out.drewN _
  rw [hw3]
  clear hw3 HR2 HO2 y0 y1 y2 y3 y4 y5 n0 n1 n2
  obtain ⟨y0, y1, y2, y3, y4, y5⟩ := HR3.out.cells
  have n0 : w3.cell? ⟨g, o, none⟩ = some (.int .i64 3) := cell_only HM.out.1 HO3.out hgl hne
  have n1 : w3.cell? ⟨g, o + 1, none⟩ = some (.int .i64 f) := cell_only HM.out.2.1 HO3.out hgl hne
  have n2 : w3.cell? ⟨g, o + 2, none⟩ = some (.int .i64 y) := cell_only HM.out.2.2 HO3.out hgl hne
  go_wp2_with fail
  go_quiet (fail)
  obtain ⟨w4, hw4⟩ : ∃ x, w3.drewN nq = x := ⟨_, rfl⟩
  have HR4 : Hid (R6 w4 b me ot 2 hd sd now) := by rw [← hw4]; exact HR3.out.below (below_drewN (Below.refl _ _) _)
  have HO4 : Hid (Only [b] w w4) := by rw [← hw4]; exact HO3.out.drewN _
  rw [hw4]
  clear hw4 HR3 HO3 y0 y1 y2 y3 y4 y5 n0 n1 n2
  obtain ⟨y0, y1, y2, y3, y4, y5⟩ := HR4.out.cells
  have n0 : w4.cell? ⟨g, o, none⟩ = some (.int .i64 3) := cell_only HM.out.1 HO4.out hgl hne
  have n1 : w4.cell? ⟨g, o + 1, none⟩ = some (.int .i64 f) := cell_only HM.out.2.1 HO4.out hgl hne
  have n2 : w4.cell? ⟨g, o + 2, none⟩ = some (.int .i64 y) := cell_only HM.out.2.2 HO4.out hgl hne
  have HRz : Hid (R6 (w4) b me ot 2 hd sd now) := HR4.out
  have HOz : Hid (Only [b] w (w4)) := HO4.out
  go_wp2_with fail
  go_ret2
  exact ⟨rfl, HRz.out, HOz.out⟩
set_option maxHeartbeats 2000000 in
set_option maxRecDepth 100000 in
theorem rh_same1m (b g o cap : Nat) (f y me ot st hd sd nw now : Int) (w : World) (h : R6 w b me ot st hd sd nw) (m0 : w.cell? ⟨g, o, none⟩ = some (.int .i64 1)) (m1 : w.cell? ⟨g, o + 1, none⟩ = some (.int .i64 f)) (m2 : w.cell? ⟨g, o + 2, none⟩ = some (.int .i64 y)) (ht : tf nw now = 0) (hne : g ≠ b) (hf0 : 1 ≤ f) (hf1 : f ≤ 1000000) (hy0 : 0 ≤ y) (hy1 : y ≤ 1000000) (hs : st = 2) (hf : ot = f) :
    Calls Tryd.prog 8 #[.pointer (some ⟨b, 0, none⟩), .slice (some ⟨g, o, none⟩) 3 cap, .int .i64 now] w fun e w' => ∃ q, e = .returned (.tuple #[.slice (some ⟨q, 0, none⟩) 3 3, .int .i64 0]) ∧ R6 w' b me f 2 now now now ∧ Msg w' q 2 me f ∧ Only [b] w w' := by
  have HT := hidden (time_calls b nw now w h.cells.2.2.2.2.2)
  rw [ht] at HT
  clear ht
  have hgl : g < w.heap.size := World.block_lt_of_cell? w ⟨g, o, none⟩ m0
  have d0 : decide (f < 1) = false := decide_eq_false (by omega)
  have d1 : decide (1000000 < f) = false := decide_eq_false (by omega)
  have d2 : decide (y < 0) = false := decide_eq_false (by omega)
  have d3 : decide (1000000 < y) = false := decide_eq_false (by omega)
  subst hs
  subst hf
  have e1 : decide (ot < ot) = false := by simp
  have e2 : (ot == ot) = true := by simp
  have HM := hidden (And.intro m0 (And.intro m1 m2))
  have HR0 := hidden h
  obtain ⟨z0, z1, z2, z3, z4, z5⟩ := h.cells
  have f5 := h.free 5
  clear h
  go_enter Tryd.func8, Tryd.ntmps8
  go_wp2_with fail
  refine HT.out.mono ?_
  rintro e w0 ⟨rfl, hw⟩
  obtain rfl := hw.symm
  clear HT
  go_wp2_with fail
  obtain ⟨w1, hw1⟩ : ∃ x, w.setCell ⟨b, 5, none⟩ (.int .i64 now) = x := ⟨_, rfl⟩
  have HR1 : Hid (R6 w1 b me ot 2 hd sd now) := by rw [← hw1]; exact HR0.out.set5 now
  have HO1 : Hid (Only [b] w w1) := by rw [← hw1]; exact (Only.refl _ _).setCell (by simp) _
  rw [hw1]
  clear hw1 z0 z1 z2 z3 z4 z5 f5 m0 m1 m2 HR0 d0 d1 d2 d3
  obtain ⟨y0, y1, y2, y3, y4, y5⟩ := HR1.out.cells
  have n0 : w1.cell? ⟨g, o, none⟩ = some (.int .i64 1) := cell_only HM.out.1 HO1.out hgl hne
  have n1 : w1.cell? ⟨g, o + 1, none⟩ = some (.int .i64 ot) := cell_only HM.out.2.1 HO1.out hgl hne
  have n2 : w1.cell? ⟨g, o + 2, none⟩ = some (.int .i64 y) := cell_only HM.out.2.2 HO1.out hgl hne
  go_quiet (fail)
  obtain ⟨w2, hw2⟩ : ∃ x, w1.drewN nq = x := ⟨_, rfl⟩
  have HR2 : Hid (R6 w2 b me ot 2 hd sd now) := by rw [← hw2]; exact HR1.out.below (below_drewN (Below.refl _ _) _)
  have HO2 : Hid (Only [b] w w2) := by rw [← hw2]; exact HO1.out.drewN _
  rw [hw2]
  clear hw2 HR1 HO1 y0 y1 y2 y3 y4 y5 n0 n1 n2
  obtain ⟨y0, y1, y2, y3, y4, y5⟩ := HR2.out.cells
  have n0 : w2.cell? ⟨g, o, none⟩ = some (.int .i64 1) := cell_only HM.out.1 HO2.out hgl hne
  have n1 : w2.cell? ⟨g, o + 1, none⟩ = some (.int .i64 ot) := cell_only HM.out.2.1 HO2.out hgl hne
  have n2 : w2.cell? ⟨g, o + 2, none⟩ = some (.int .i64 y) := cell_only HM.out.2.2 HO2.out hgl hne
  go_wp2_with fail
  go_quiet (fail)
  obtain ⟨w3, hw3⟩ : ∃ x, w2.drewN nq = x := ⟨_, rfl⟩
  have HR3 : Hid (R6 w3 b me ot 2 hd sd now) := by rw [← hw3]; exact HR2.out.below (below_drewN (Below.refl _ _) _)
  have HO3 : Hid (Only [b] w w3) := by rw [← hw3]; exact HO2.out.drewN _
  rw [hw3]
  clear hw3 HR2 HO2 y0 y1 y2 y3 y4 y5 n0 n1 n2
  obtain ⟨y0, y1, y2, y3, y4, y5⟩ := HR3.out.cells
  have n0 : w3.cell? ⟨g, o, none⟩ = some (.int .i64 1) := cell_only HM.out.1 HO3.out hgl hne
  have n1 : w3.cell? ⟨g, o + 1, none⟩ = some (.int .i64 ot) := cell_only HM.out.2.1 HO3.out hgl hne
  have n2 : w3.cell? ⟨g, o + 2, none⟩ = some (.int .i64 y) := cell_only HM.out.2.2 HO3.out hgl hne
  have fz0 := (HR3.out).free 2
  obtain ⟨v00, v01, v02, v03, v04, v05⟩ := ((HR3.out).set2 2).cells
  have nn1 : ((w3).setCell ⟨b, 2, none⟩ (.int .i64 2)).cell? ⟨g, o + 1, none⟩ = some (.int .i64 ot) := cell_only HM.out.2.1 ((HO3.out).setCell (by simp) _) hgl hne
  have fz1 := ((HR3.out).set2 2).free 1
  obtain ⟨v10, v11, v12, v13, v14, v15⟩ := (((HR3.out).set2 2).set1 ot).cells
  have fz2 := (((HR3.out).set2 2).set1 ot).free 3
  obtain ⟨v20, v21, v22, v23, v24, v25⟩ := ((((HR3.out).set2 2).set1 ot).set3 now).cells
  have fz3 := ((((HR3.out).set2 2).set1 ot).set3 now).free 4
  obtain ⟨v30, v31, v32, v33, v34, v35⟩ := (((((HR3.out).set2 2).set1 ot).set3 now).set4 now).cells
  have HRz : Hid (R6 (((((w3).setCell ⟨b, 2, none⟩ (.int .i64 2)).setCell ⟨b, 1, none⟩ (.int .i64 ot)).setCell ⟨b, 3, none⟩ (.int .i64 now)).setCell ⟨b, 4, none⟩ (.int .i64 now)) b me ot 2 now now now) := ((((HR3.out).set2 2).set1 ot).set3 now).set4 now
  have HOz : Hid (Only [b] w (((((w3).setCell ⟨b, 2, none⟩ (.int .i64 2)).setCell ⟨b, 1, none⟩ (.int .i64 ot)).setCell ⟨b, 3, none⟩ (.int .i64 now)).setCell ⟨b, 4, none⟩ (.int .i64 now))) := ((((HO3.out).setCell (by simp) _).setCell (by simp) _).setCell (by simp) _).setCell (by simp) _
  go_wp2_with fail
  go_region
  go_wp2_with fail
  go_ret2
  exact ⟨_, rfl, HRz.out.below (((Below.refl _ _).alloc (Nat.le_refl _) _).drew), msg_newd (by simp [World.setCell]), (HOz.out.alloc _).drew⟩
set_option maxHeartbeats 2000000 in
set_option maxRecDepth 100000 in
theorem rh_same2m (b g o cap : Nat) (f y me ot st hd sd nw now : Int) (w : World) (h : R6 w b me ot st hd sd nw) (m0 : w.cell? ⟨g, o, none⟩ = some (.int .i64 2)) (m1 : w.cell? ⟨g, o + 1, none⟩ = some (.int .i64 f)) (m2 : w.cell? ⟨g, o + 2, none⟩ = some (.int .i64 y)) (ht : tf nw now = 0) (hne : g ≠ b) (hf0 : 1 ≤ f) (hf1 : f ≤ 1000000) (hy0 : 0 ≤ y) (hy1 : y ≤ 1000000) (hs : st = 2) (hf : ot = f) (hy : y = me) :
    Calls Tryd.prog 8 #[.pointer (some ⟨b, 0, none⟩), .slice (some ⟨g, o, none⟩) 3 cap, .int .i64 now] w fun e w' => e = .returned (.tuple #[.slice none 0 0, .int .i64 0]) ∧ R6 w' b me f 2 now sd now ∧ Only [b] w w' := by
  have HT := hidden (time_calls b nw now w h.cells.2.2.2.2.2)
  rw [ht] at HT
  clear ht
  have hgl : g < w.heap.size := World.block_lt_of_cell? w ⟨g, o, none⟩ m0
  have d0 : decide (f < 1) = false := decide_eq_false (by omega)
  have d1 : decide (1000000 < f) = false := decide_eq_false (by omega)
  have d2 : decide (y < 0) = false := decide_eq_false (by omega)
  have d3 : decide (1000000 < y) = false := decide_eq_false (by omega)
  subst hs
  subst hf
  have e1 : decide (ot < ot) = false := by simp
  have e2 : (ot == ot) = true := by simp
  subst hy
  have HM := hidden (And.intro m0 (And.intro m1 m2))
  have HR0 := hidden h
  obtain ⟨z0, z1, z2, z3, z4, z5⟩ := h.cells
  have f5 := h.free 5
  clear h
  go_enter Tryd.func8, Tryd.ntmps8
  go_wp2_with fail
  refine HT.out.mono ?_
  rintro e w0 ⟨rfl, hw⟩
  obtain rfl := hw.symm
  clear HT
  go_wp2_with fail
  obtain ⟨w1, hw1⟩ : ∃ x, w.setCell ⟨b, 5, none⟩ (.int .i64 now) = x := ⟨_, rfl⟩
  have HR1 : Hid (R6 w1 b y ot 2 hd sd now) := by rw [← hw1]; exact HR0.out.set5 now
  have HO1 : Hid (Only [b] w w1) := by rw [← hw1]; exact (Only.refl _ _).setCell (by simp) _
  rw [hw1]
  clear hw1 z0 z1 z2 z3 z4 z5 f5 m0 m1 m2 HR0 d0 d1 d2 d3
  obtain ⟨y0, y1, y2, y3, y4, y5⟩ := HR1.out.cells
  have n0 : w1.cell? ⟨g, o, none⟩ = some (.int .i64 2) := cell_only HM.out.1 HO1.out hgl hne
  have n1 : w1.cell? ⟨g, o + 1, none⟩ = some (.int .i64 ot) := cell_only HM.out.2.1 HO1.out hgl hne
  have n2 : w1.cell? ⟨g, o + 2, none⟩ = some (.int .i64 y) := cell_only HM.out.2.2 HO1.out hgl hne
  go_quiet (fail)
  obtain ⟨w2, hw2⟩ : ∃ x, w1.drewN nq = x := ⟨_, rfl⟩
  have HR2 : Hid (R6 w2 b y ot 2 hd sd now) := by rw [← hw2]; exact HR1.out.below (below_drewN (Below.refl _ _) _)
  have HO2 : Hid (Only [b] w w2) := by rw [← hw2]; exact HO1.out.drewN _
  rw [hw2]
  clear hw2 HR1 HO1 y0 y1 y2 y3 y4 y5 n0 n1 n2
  obtain ⟨y0, y1, y2, y3, y4, y5⟩ := HR2.out.cells
  have n0 : w2.cell? ⟨g, o, none⟩ = some (.int .i64 2) := cell_only HM.out.1 HO2.out hgl hne
  have n1 : w2.cell? ⟨g, o + 1, none⟩ = some (.int .i64 ot) := cell_only HM.out.2.1 HO2.out hgl hne
  have n2 : w2.cell? ⟨g, o + 2, none⟩ = some (.int .i64 y) := cell_only HM.out.2.2 HO2.out hgl hne
  go_wp2_with fail
  go_quiet (fail)
  obtain ⟨w3, hw3⟩ : ∃ x, w2.drewN nq = x := ⟨_, rfl⟩
  have HR3 : Hid (R6 w3 b y ot 2 hd sd now) := by rw [← hw3]; exact HR2.out.below (below_drewN (Below.refl _ _) _)
  have HO3 : Hid (Only [b] w w3) := by rw [← hw3]; exact HO2.out.drewN _
  rw [hw3]
  clear hw3 HR2 HO2 y0 y1 y2 y3 y4 y5 n0 n1 n2
  obtain ⟨y0, y1, y2, y3, y4, y5⟩ := HR3.out.cells
  have n0 : w3.cell? ⟨g, o, none⟩ = some (.int .i64 2) := cell_only HM.out.1 HO3.out hgl hne
  have n1 : w3.cell? ⟨g, o + 1, none⟩ = some (.int .i64 ot) := cell_only HM.out.2.1 HO3.out hgl hne
  have n2 : w3.cell? ⟨g, o + 2, none⟩ = some (.int .i64 y) := cell_only HM.out.2.2 HO3.out hgl hne
  go_wp2_with fail
  go_quiet (fail)
  obtain ⟨w4, hw4⟩ : ∃ x, w3.drewN nq = x := ⟨_, rfl⟩
  have HR4 : Hid (R6 w4 b y ot 2 hd sd now) := by rw [← hw4]; exact HR3.out.below (below_drewN (Below.refl _ _) _)
  have HO4 : Hid (Only [b] w w4) := by rw [← hw4]; exact HO3.out.drewN _
  rw [hw4]
  clear hw4 HR3 HO3 y0 y1 y2 y3 y4 y5 n0 n1 n2
  obtain ⟨y0, y1, y2, y3, y4, y5⟩ := HR4.out.cells
  have n0 : w4.cell? ⟨g, o, none⟩ = some (.int .i64 2) := cell_only HM.out.1 HO4.out hgl hne
  have n1 : w4.cell? ⟨g, o + 1, none⟩ = some (.int .i64 ot) := cell_only HM.out.2.1 HO4.out hgl hne
  have n2 : w4.cell? ⟨g, o + 2, none⟩ = some (.int .i64 y) := cell_only HM.out.2.2 HO4.out hgl hne
  have fz0 := (HR4.out).free 2
  obtain ⟨v00, v01, v02, v03, v04, v05⟩ := ((HR4.out).set2 2).cells
  have nn1 : ((w4).setCell ⟨b, 2, none⟩ (.int .i64 2)).cell? ⟨g, o + 1, none⟩ = some (.int .i64 ot) := cell_only HM.out.2.1 ((HO4.out).setCell (by simp) _) hgl hne
  have fz1 := ((HR4.out).set2 2).free 1
  obtain ⟨v10, v11, v12, v13, v14, v15⟩ := (((HR4.out).set2 2).set1 ot).cells
  have fz2 := (((HR4.out).set2 2).set1 ot).free 3
  obtain ⟨v20, v21, v22, v23, v24, v25⟩ := ((((HR4.out).set2 2).set1 ot).set3 now).cells
  have HRz : Hid (R6 ((((w4).setCell ⟨b, 2, none⟩ (.int .i64 2)).setCell ⟨b, 1, none⟩ (.int .i64 ot)).setCell ⟨b, 3, none⟩ (.int .i64 now)) b y ot 2 now sd now) := (((HR4.out).set2 2).set1 ot).set3 now
  have HOz : Hid (Only [b] w ((((w4).setCell ⟨b, 2, none⟩ (.int .i64 2)).setCell ⟨b, 1, none⟩ (.int .i64 ot)).setCell ⟨b, 3, none⟩ (.int .i64 now))) := (((HO4.out).setCell (by simp) _).setCell (by simp) _).setCell (by simp) _
  go_wp2_with fail
  go_ret2
  exact ⟨rfl, HRz.out, HOz.out⟩
set_option maxHeartbeats 2000000 in
set_option maxRecDepth 100000 in
theorem rh_same2x (b g o cap : Nat) (f y me ot st hd sd nw now : Int) (w : World) (h : R6 w b me ot st hd sd nw) (m0 : w.cell? ⟨g, o, none⟩ = some (.int .i64 2)) (m1 : w.cell? ⟨g, o + 1, none⟩ = some (.int .i64 f)) (m2 : w.cell? ⟨g, o + 2, none⟩ = some (.int .i64 y)) (ht : tf nw now = 0) (hne : g ≠ b) (hf0 : 1 ≤ f) (hf1 : f ≤ 1000000) (hy0 : 0 ≤ y) (hy1 : y ≤ 1000000) (hs : st = 2) (hf : ot = f) (hy : y ≠ me) :
    Calls Tryd.prog 8 #[.pointer (some ⟨b, 0, none⟩), .slice (some ⟨g, o, none⟩) 3 cap, .int .i64 now] w fun e w' => e = .returned (.tuple #[.slice none 0 0, .int .i64 0]) ∧ R6 w' b me f 2 hd sd now ∧ Only [b] w w' := by
  have HT := hidden (time_calls b nw now w h.cells.2.2.2.2.2)
  rw [ht] at HT
  clear ht
  have hgl : g < w.heap.size := World.block_lt_of_cell? w ⟨g, o, none⟩ m0
  have d0 : decide (f < 1) = false := decide_eq_false (by omega)
  have d1 : decide (1000000 < f) = false := decide_eq_false (by omega)
  have d2 : decide (y < 0) = false := decide_eq_false (by omega)
  have d3 : decide (1000000 < y) = false := decide_eq_false (by omega)
  subst hs
  subst hf
  have e1 : decide (ot < ot) = false := by simp
  have e2 : (ot == ot) = true := by simp
  have e3 : (y == me) = false := by simpa using hy
  have e4 : (y != me) = true := by simpa using hy
  have HM := hidden (And.intro m0 (And.intro m1 m2))
  have HR0 := hidden h
  obtain ⟨z0, z1, z2, z3, z4, z5⟩ := h.cells
  have f5 := h.free 5
  clear h
  go_enter Tryd.func8, Tryd.ntmps8
  go_wp2_with fail
  refine HT.out.mono ?_
  rintro e w0 ⟨rfl, hw⟩
  obtain rfl := hw.symm
  clear HT
  go_wp2_with fail
  obtain ⟨w1, hw1⟩ : ∃ x, w.setCell ⟨b, 5, none⟩ (.int .i64 now) = x := ⟨_, rfl⟩
  have HR1 : Hid (R6 w1 b me ot 2 hd sd now) := by rw [← hw1]; exact HR0.out.set5 now
  have HO1 : Hid (Only [b] w w1) := by rw [← hw1]; exact (Only.refl _ _).setCell (by simp) _
  rw [hw1]
  clear hw1 z0 z1 z2 z3 z4 z5 f5 m0 m1 m2 HR0 d0 d1 d2 d3
  obtain ⟨y0, y1, y2, y3, y4, y5⟩ := HR1.out.cells
  have n0 : w1.cell? ⟨g, o, none⟩ = some (.int .i64 2) := cell_only HM.out.1 HO1.out hgl hne
  have n1 : w1.cell? ⟨g, o + 1, none⟩ = some (.int .i64 ot) := cell_only HM.out.2.1 HO1.out hgl hne
  have n2 : w1.cell? ⟨g, o + 2, none⟩ = some (.int .i64 y) := cell_only HM.out.2.2 HO1.out hgl hne
  go_quiet (fail)
  obtain ⟨w2, hw2⟩ : ∃ x, w1.drewN nq = x := ⟨_, rfl⟩
  have HR2 : Hid (R6 w2 b me ot 2 hd sd now) := by rw [← hw2]; exact HR1.out.below (below_drewN (Below.refl _ _) _)
  have HO2 : Hid (Only [b] w w2) := by rw [← hw2]; exact HO1.out.drewN _
  rw [hw2]
  clear hw2 HR1 HO1 y0 y1 y2 y3 y4 y5 n0 n1 n2
  obtain ⟨y0, y1, y2, y3, y4, y5⟩ := HR2.out.cells
  have n0 : w2.cell? ⟨g, o, none⟩ = some (.int .i64 2) := cell_only HM.out.1 HO2.out hgl hne
  have n1 : w2.cell? ⟨g, o + 1, none⟩ = some (.int .i64 ot) := cell_only HM.out.2.1 HO2.out hgl hne
  have n2 : w2.cell? ⟨g, o + 2, none⟩ = some (.int .i64 y) := cell_only HM.out.2.2 HO2.out hgl hne
  go_wp2_with fail
  go_quiet (fail)
  obtain ⟨w3, hw3⟩ : ∃ x, w2.drewN nq = x := ⟨_, rfl⟩
  have HR3 : Hid (R6 w3 b me ot 2 hd sd now) := by rw [← hw3]; exact HR2.out.below (below_drewN (Below.refl _ _) _)
  have HO3 : Hid (Only [b] w w3) := by rw [← hw3]; exact HO2.out.drewN _
  rw [hw3]
  clear hw3 HR2 HO2 y0 y1 y2 y3 y4 y5 n0 n1 n2
  obtain ⟨y0, y1, y2, y3, y4, y5⟩ := HR3.out.cells
  have n0 : w3.cell? ⟨g, o, none⟩ = some (.int .i64 2) := cell_only HM.out.1 HO3.out hgl hne
  have n1 : w3.cell? ⟨g, o + 1, none⟩ = some (.int .i64 ot) := cell_only HM.out.2.1 HO3.out hgl hne
  have n2 : w3.cell? ⟨g, o + 2, none⟩ = some (.int .i64 y) := cell_only HM.out.2.2 HO3.out hgl hne
  go_wp2_with fail
  go_quiet (fail)
  obtain ⟨w4, hw4⟩ : ∃ x, w3.drewN nq = x := ⟨_, rfl⟩
  have HR4 : Hid (R6 w4 b me ot 2 hd sd now) := by rw [← hw4]; exact HR3.out.below (below_drewN (Below.refl _ _) _)
  have HO4 : Hid (Only [b] w w4) := by rw [← hw4]; exact HO3.out.drewN _
  rw [hw4]
  clear hw4 HR3 HO3 y0 y1 y2 y3 y4 y5 n0 n1 n2
  obtain ⟨y0, y1, y2, y3, y4, y5⟩ := HR4.out.cells
  have n0 : w4.cell? ⟨g, o, none⟩ = some (.int .i64 2) := cell_only HM.out.1 HO4.out hgl hne
  have n1 : w4.cell? ⟨g, o + 1, none⟩ = some (.int .i64 ot) := cell_only HM.out.2.1 HO4.out hgl hne
  have n2 : w4.cell? ⟨g, o + 2, none⟩ = some (.int .i64 y) := cell_only HM.out.2.2 HO4.out hgl hne
  have HRz : Hid (R6 (w4) b me ot 2 hd sd now) := HR4.out
  have HOz : Hid (Only [b] w (w4)) := HO4.out
  go_wp2_with fail
  go_ret2
  exact ⟨rfl, HRz.out, HOz.out⟩
set_option maxHeartbeats 2000000 in
set_option maxRecDepth 100000 in
theorem rh_same3m (b g o cap : Nat) (f y me ot st hd sd nw now : Int) (w : World) (h : R6 w b me ot st hd sd nw) (m0 : w.cell? ⟨g, o, none⟩ = some (.int .i64 3)) (m1 : w.cell? ⟨g, o + 1, none⟩ = some (.int .i64 f)) (m2 : w.cell? ⟨g, o + 2, none⟩ = some (.int .i64 y)) (ht : tf nw now = 0) (hne : g ≠ b) (hf0 : 1 ≤ f) (hf1 : f ≤ 1000000) (hy0 : 0 ≤ y) (hy1 : y ≤ 1000000) (hs : st = 2) (hf : ot = f) (hy : y = me) :
    Calls Tryd.prog 8 #[.pointer (some ⟨b, 0, none⟩), .slice (some ⟨g, o, none⟩) 3 cap, .int .i64 now] w fun e w' => e = .returned (.tuple #[.slice none 0 0, .int .i64 0]) ∧ R6 w' b me f 2 now sd now ∧ Only [b] w w' := by
  have HT := hidden (time_calls b nw now w h.cells.2.2.2.2.2)
  rw [ht] at HT
  clear ht
  have hgl : g < w.heap.size := World.block_lt_of_cell? w ⟨g, o, none⟩ m0
  have d0 : decide (f < 1) = false := decide_eq_false (by omega)
  have d1 : decide (1000000 < f) = false := decide_eq_false (by omega)
  have d2 : decide (y < 0) = false := decide_eq_false (by omega)
  have d3 : decide (1000000 < y) = false := decide_eq_false (by omega)
  subst hs
  subst hf
  have e1 : decide (ot < ot) = false := by simp
  have e2 : (ot == ot) = true := by simp
  subst hy
  have HM := hidden (And.intro m0 (And.intro m1 m2))
  have HR0 := hidden h
  obtain ⟨z0, z1, z2, z3, z4, z5⟩ := h.cells
  have f5 := h.free 5
  clear h
  go_enter Tryd.func8, Tryd.ntmps8
  go_wp2_with fail
  refine HT.out.mono ?_
  rintro e w0 ⟨rfl, hw⟩
  obtain rfl := hw.symm
  clear HT
  go_wp2_with fail
  obtain ⟨w1, hw1⟩ : ∃ x, w.setCell ⟨b, 5, none⟩ (.int .i64 now) = x := ⟨_, rfl⟩
  have HR1 : Hid (R6 w1 b y ot 2 hd sd now) := by rw [← hw1]; exact HR0.out.set5 now
  have HO1 : Hid (Only [b] w w1) := by rw [← hw1]; exact (Only.refl _ _).setCell (by simp) _
  rw [hw1]
  clear hw1 z0 z1 z2 z3 z4 z5 f5 m0 m1 m2 HR0 d0 d1 d2 d3
  obtain ⟨y0, y1, y2, y3, y4, y5⟩ := HR1.out.cells
  have n0 : w1.cell? ⟨g, o, none⟩ = some (.int .i64 3) := cell_only HM.out.1 HO1.out hgl hne
  have n1 : w1.cell? ⟨g, o + 1, none⟩ = some (.int .i64 ot) := cell_only HM.out.2.1 HO1.out hgl hne
  have n2 : w1.cell? ⟨g, o + 2, none⟩ = some (.int .i64 y) := cell_only HM.out.2.2 HO1.out hgl hne
  go_quiet (fail)
  obtain ⟨w2, hw2⟩ : ∃ x, w1.drewN nq = x := ⟨_, rfl⟩
  have HR2 : Hid (R6 w2 b y ot 2 hd sd now) := by rw [← hw2]; exact HR1.out.below (below_drewN (Below.refl _ _) _)
  have HO2 : Hid (Only [b] w w2) := by rw [← hw2]; exact HO1.out.drewN _
  rw [hw2]
  clear hw2 HR1 HO1 y0 y1 y2 y3 y4 y5 n0 n1 n2
  obtain ⟨y0, y1, y2, y3, y4, y5⟩ := HR2.out.cells
  have n0 : w2.cell? ⟨g, o, none⟩ = some (.int .i64 3) := cell_only HM.out.1 HO2.out hgl hne
  have n1 : w2.cell? ⟨g, o + 1, none⟩ = some (.int .i64 ot) := cell_only HM.out.2.1 HO2.out hgl hne
  have n2 : w2.cell? ⟨g, o + 2, none⟩ = some (.int .i64 y) := cell_only HM.out.2.2 HO2.out hgl hne
  go_wp2_with fail
  go_quiet (fail)
  obtain ⟨w3, hw3⟩ : ∃ x, w2.drewN nq = x := ⟨_, rfl⟩
  have HR3 : Hid (R6 w3 b y ot 2 hd sd now) := by rw [← hw3]; exact HR2.out.below (below_drewN (Below.refl _ _) _)
  have HO3 : Hid (Only [b] w w3) := by rw [← hw3]; exact HO2.out.drewN _
  rw [hw3]
  clear hw3 HR2 HO2 y0 y1 y2 y3 y4 y5 n0 n1 n2
  obtain ⟨y0, y1, y2, y3, y4, y5⟩ := HR3.out.cells
  have n0 : w3.cell? ⟨g, o, none⟩ = some (.int .i64 3) := cell_only HM.out.1 HO3.out hgl hne
  have n1 : w3.cell? ⟨g, o + 1, none⟩ = some (.int .i64 ot) := cell_only HM.out.2.1 HO3.out hgl hne
  have n2 : w3.cell? ⟨g, o + 2, none⟩ = some (.int .i64 y) := cell_only HM.out.2.2 HO3.out hgl hne
  go_wp2_with fail
  go_quiet (fail)
  obtain ⟨w4, hw4⟩ : ∃ x, w3.drewN nq = x := ⟨_, rfl⟩
  have HR4 : Hid (R6 w4 b y ot 2 hd sd now) := by rw [← hw4]; exact HR3.out.below (below_drewN (Below.refl _ _) _)
  have HO4 : Hid (Only [b] w w4) := by rw [← hw4]; exact HO3.out.drewN _
  rw [hw4]
  clear hw4 HR3 HO3 y0 y1 y2 y3 y4 y5 n0 n1 n2
  obtain ⟨y0, y1, y2, y3, y4, y5⟩ := HR4.out.cells
  have n0 : w4.cell? ⟨g, o, none⟩ = some (.int .i64 3) := cell_only HM.out.1 HO4.out hgl hne
  have n1 : w4.cell? ⟨g, o + 1, none⟩ = some (.int .i64 ot) := cell_only HM.out.2.1 HO4.out hgl hne
  have n2 : w4.cell? ⟨g, o + 2, none⟩ = some (.int .i64 y) := cell_only HM.out.2.2 HO4.out hgl hne
  have fz0 := (HR4.out).free 3
  obtain ⟨v00, v01, v02, v03, v04, v05⟩ := ((HR4.out).set3 now).cells
  have HRz : Hid (R6 ((w4).setCell ⟨b, 3, none⟩ (.int .i64 now)) b y ot 2 now sd now) := (HR4.out).set3 now
  have HOz : Hid (Only [b] w ((w4).setCell ⟨b, 3, none⟩ (.int .i64 now))) := (HO4.out).setCell (by simp) _
  go_wp2_with fail
  go_ret2
  exact ⟨rfl, HRz.out, HOz.out⟩
set_option maxHeartbeats 2000000 in
set_option maxRecDepth 100000 in
theorem rh_same3x (b g o cap : Nat) (f y me ot st hd sd nw now : Int) (w : World) (h : R6 w b me ot st hd sd nw) (m0 : w.cell? ⟨g, o, none⟩ = some (.int .i64 3)) (m1 : w.cell? ⟨g, o + 1, none⟩ = some (.int .i64 f)) (m2 : w.cell? ⟨g, o + 2, none⟩ = some (.int .i64 y)) (ht : tf nw now = 0) (hne : g ≠ b) (hf0 : 1 ≤ f) (hf1 : f ≤ 1000000) (hy0 : 0 ≤ y) (hy1 : y ≤ 1000000) (hs : st = 2) (hf : ot = f) (hy : y ≠ me) :
    Calls Tryd.prog 8 #[.pointer (some ⟨b, 0, none⟩), .slice (some ⟨g, o, none⟩) 3 cap, .int .i64 now] w fun e w' => e = .returned (.tuple #[.slice none 0 0, .int .i64 0]) ∧ R6 w' b me f 2 hd sd now ∧ Only [b] w w' := by
  have HT := hidden (time_calls b nw now w h.cells.2.2.2.2.2)
  rw [ht] at HT
  clear ht
  have hgl : g < w.heap.size := World.block_lt_of_cell? w ⟨g, o, none⟩ m0
  have d0 : decide (f < 1) = false := decide_eq_false (by omega)
  have d1 : decide (1000000 < f) = false := decide_eq_false (by omega)
  have d2 : decide (y < 0) = false := decide_eq_false (by omega)
  have d3 : decide (1000000 < y) = false := decide_eq_false (by omega)
  subst hs
  subst hf
  have e1 : decide (ot < ot) = false := by simp
  have e2 : (ot == ot) = true := by simp
  have e3 : (y == me) = false := by simpa using hy
  have e4 : (y != me) = true := by simpa using hy
  have HM := hidden (And.intro m0 (And.intro m1 m2))
  have HR0 := hidden h
  obtain ⟨z0, z1, z2, z3, z4, z5⟩ := h.cells
  have f5 := h.free 5
  clear h
  go_enter Tryd.func8, Tryd.ntmps8
  go_wp2_with fail
  refine HT.out.mono ?_
  rintro e w0 ⟨rfl, hw⟩
  obtain rfl := hw.symm
  clear HT
  go_wp2_with fail
  obtain ⟨w1, hw1⟩ : ∃ x, w.setCell ⟨b, 5, none⟩ (.int .i64 now) = x := ⟨_, rfl⟩
  have HR1 : Hid (R6 w1 b me ot 2 hd sd now) := by rw [← hw1]; exact HR0.out.set5 now
  have HO1 : Hid (Only [b] w w1) := by rw [← hw1]; exact (Only.refl _ _).setCell (by simp) _
  rw [hw1]
  clear hw1 z0 z1 z2 z3 z4 z5 f5 m0 m1 m2 HR0 d0 d1 d2 d3
  obtain ⟨y0, y1, y2, y3, y4, y5⟩ := HR1.out.cells
  have n0 : w1.cell? ⟨g, o, none⟩ = some (.int .i64 3) := cell_only HM.out.1 HO1.out hgl hne
  have n1 : w1.cell? ⟨g, o + 1, none⟩ = some (.int .i64 ot) := cell_only HM.out.2.1 HO1.out hgl hne
  have n2 : w1.cell? ⟨g, o + 2, none⟩ = some (.int .i64 y) := cell_only HM.out.2.2 HO1.out hgl hne
  go_quiet (fail)
  obtain ⟨w2, hw2⟩ : ∃ x, w1.drewN nq = x := ⟨_, rfl⟩
  have HR2 : Hid (R6 w2 b me ot 2 hd sd now) := by rw [← hw2]; exact HR1.out.below (below_drewN (Below.refl _ _) _)
  have HO2 : Hid (Only [b] w w2) := by rw [← hw2]; exact HO1.out.drewN _
  rw [hw2]
  clear hw2 HR1 HO1 y0 y1 y2 y3 y4 y5 n0 n1 n2
  obtain ⟨y0, y1, y2, y3, y4, y5⟩ := HR2.out.cells
  have n0 : w2.cell? ⟨g, o, none⟩ = some (.int .i64 3) := cell_only HM.out.1 HO2.out hgl hne
  have n1 : w2.cell? ⟨g, o + 1, none⟩ = some (.int .i64 ot) := cell_only HM.out.2.1 HO2.out hgl hne
  have n2 : w2.cell? ⟨g, o + 2, none⟩ = some (.int .i64 y) := cell_only HM.out.2.2 HO2.out hgl hne
  go_wp2_with fail
  go_quiet (fail)
  obtain ⟨w3, hw3⟩ : ∃ x, w2.drewN nq = x := ⟨_, rfl⟩
  have HR3 : Hid (R6 w3 b me ot 2 hd sd now) := by rw [← hw3]; exact HR2.out.below (below_drewN (Below.refl _ _) _)
  have HO3 : Hid (Only [b] w w3) := by rw [← hw3]; exact HO2.out.drewN _
  rw [hw3]
  clear hw3 HR2 HO2 y0 y1 y2 y3 y4 y5 n0 n1 n2
  obtain ⟨y0, y1, y2, y3, y4, y5⟩ := HR3.out.cells
  have n0 : w3.cell? ⟨g, o, none⟩ = some (.int .i64 3) := cell_only HM.out.1 HO3.out hgl hne
  have n1 : w3.cell? ⟨g, o + 1, none⟩ = some (.int .i64 ot) := cell_only HM.out.2.1 HO3.out hgl hne
  have n2 : w3.cell? ⟨g, o + 2, none⟩ = some (.int .i64 y) := cell_only HM.out.2.2 HO3.out hgl hne
  go_wp2_with fail
  go_quiet (fail)
  obtain ⟨w4, hw4⟩ : ∃ x, w3.drewN nq = x := ⟨_, rfl⟩
  have HR4 : Hid (R6 w4 b me ot 2 hd sd now) := by rw [← hw4]; exact HR3.out.below (below_drewN (Below.refl _ _) _)
  have HO4 : Hid (Only [b] w w4) := by rw [← hw4]; exact HO3.out.drewN _
  rw [hw4]
  clear hw4 HR3 HO3 y0 y1 y2 y3 y4 y5 n0 n1 n2
  obtain ⟨y0, y1, y2, y3, y4, y5⟩ := HR4.out.cells
  have n0 : w4.cell? ⟨g, o, none⟩ = some (.int .i64 3) := cell_only HM.out.1 HO4.out hgl hne
  have n1 : w4.cell? ⟨g, o + 1, none⟩ = some (.int .i64 ot) := cell_only HM.out.2.1 HO4.out hgl hne
  have n2 : w4.cell? ⟨g, o + 2, none⟩ = some (.int .i64 y) := cell_only HM.out.2.2 HO4.out hgl hne
  have HRz : Hid (R6 (w4) b me ot 2 hd sd now) := HR4.out
  have HOz : Hid (Only [b] w (w4)) := HO4.out
  go_wp2_with fail
  go_ret2
  exact ⟨rfl, HRz.out, HOz.out⟩
set_option maxHeartbeats 2000000 in
set_option maxRecDepth 100000 in
theorem rh_newer1m (b g o cap : Nat) (f y me ot st hd sd nw now : Int) (w : World) (h : R6 w b me ot st hd sd nw) (m0 : w.cell? ⟨g, o, none⟩ = some (.int .i64 1)) (m1 : w.cell? ⟨g, o + 1, none⟩ = some (.int .i64 f)) (m2 : w.cell? ⟨g, o + 2, none⟩ = some (.int .i64 y)) (ht : tf nw now = 0) (hne : g ≠ b) (hf0 : 1 ≤ f) (hf1 : f ≤ 1000000) (hy0 : 0 ≤ y) (hy1 : y ≤ 1000000) (hs : st = 2) (hf : ot < f) :
    Calls Tryd.prog 8 #[.pointer (some ⟨b, 0, none⟩), .slice (some ⟨g, o, none⟩) 3 cap, .int .i64 now] w fun e w' => ∃ q, e = .returned (.tuple #[.slice (some ⟨q, 0, none⟩) 3 3, .int .i64 0]) ∧ R6 w' b me f 2 now now now ∧ Msg w' q 2 me f ∧ Only [b] w w' := by
  have HT := hidden (time_calls b nw now w h.cells.2.2.2.2.2)
  rw [ht] at HT
  clear ht
  have hgl : g < w.heap.size := World.block_lt_of_cell? w ⟨g, o, none⟩ m0
  have d0 : decide (f < 1) = false := decide_eq_false (by omega)
  have d1 : decide (1000000 < f) = false := decide_eq_false (by omega)
  have d2 : decide (y < 0) = false := decide_eq_false (by omega)
  have d3 : decide (1000000 < y) = false := decide_eq_false (by omega)
  subst hs
  have e1 : decide (f < ot) = false := decide_eq_false (by omega)
  have e2 : (f == ot) = false := by simp; omega
  have HM := hidden (And.intro m0 (And.intro m1 m2))
  have HR0 := hidden h
  obtain ⟨z0, z1, z2, z3, z4, z5⟩ := h.cells
  have f5 := h.free 5
  clear h
  go_enter Tryd.func8, Tryd.ntmps8
  go_wp2_with fail
  refine HT.out.mono ?_
  rintro e w0 ⟨rfl, hw⟩
  obtain rfl := hw.symm
  clear HT
  go_wp2_with fail
  obtain ⟨w1, hw1⟩ : ∃ x, w.setCell ⟨b, 5, none⟩ (.int .i64 now) = x := ⟨_, rfl⟩
  have HR1 : Hid (R6 w1 b me ot 2 hd sd now) := by rw [← hw1]; exact HR0.out.set5 now
  have HO1 : Hid (Only [b] w w1) := by rw [← hw1]; exact (Only.refl _ _).setCell (by simp) _
  rw [hw1]
  clear hw1 z0 z1 z2 z3 z4 z5 f5 m0 m1 m2 HR0 d0 d1 d2 d3
  obtain ⟨y0, y1, y2, y3, y4, y5⟩ := HR1.out.cells
  have n0 : w1.cell? ⟨g, o, none⟩ = some (.int .i64 1) := cell_only HM.out.1 HO1.out hgl hne
  have n1 : w1.cell? ⟨g, o + 1, none⟩ = some (.int .i64 f) := cell_only HM.out.2.1 HO1.out hgl hne
  have n2 : w1.cell? ⟨g, o + 2, none⟩ = some (.int .i64 y) := cell_only HM.out.2.2 HO1.out hgl hne
  go_quiet (fail)
  obtain ⟨w2, hw2⟩ : ∃ x, w1.drewN nq = x := ⟨_, rfl⟩
  have HR2 : Hid (R6 w2 b me ot 2 hd sd now) := by rw [← hw2]; exact HR1.out.below (below_drewN (Below.refl _ _) _)
  have HO2 : Hid (Only [b] w w2) := by rw [← hw2]; exact HO1.out.drewN _
  rw [hw2]
  clear hw2 HR1 HO1 y0 y1 y2 y3 y4 y5 n0 n1 n2
  obtain ⟨y0, y1, y2, y3, y4, y5⟩ := HR2.out.cells
  have n0 : w2.cell? ⟨g, o, none⟩ = some (.int .i64 1) := cell_only HM.out.1 HO2.out hgl hne
  have n1 : w2.cell? ⟨g, o + 1, none⟩ = some (.int .i64 f) := cell_only HM.out.2.1 HO2.out hgl hne
  have n2 : w2.cell? ⟨g, o + 2, none⟩ = some (.int .i64 y) := cell_only HM.out.2.2 HO2.out hgl hne
  go_wp2_with fail
  go_quiet (fail)
  obtain ⟨w3, hw3⟩ : ∃ x, w2.drewN nq = x := ⟨_, rfl⟩
  have HR3 : Hid (R6 w3 b me ot 2 hd sd now) := by rw [← hw3]; exact HR2.out.below (below_drewN (Below.refl _ _) _)
  have HO3 : Hid (Only [b] w w3) := by rw [← hw3]; exact HO2.out.drewN _
  rw [hw3]
  clear hw3 HR2 HO2 y0 y1 y2 y3 y4 y5 n0 n1 n2
  obtain ⟨y0, y1, y2, y3, y4, y5⟩ := HR3.out.cells
  have n0 : w3.cell? ⟨g, o, none⟩ = some (.int .i64 1) := cell_only HM.out.1 HO3.out hgl hne
  have n1 : w3.cell? ⟨g, o + 1, none⟩ = some (.int .i64 f) := cell_only HM.out.2.1 HO3.out hgl hne
  have n2 : w3.cell? ⟨g, o + 2, none⟩ = some (.int .i64 y) := cell_only HM.out.2.2 HO3.out hgl hne
  have fz0 := (HR3.out).free 2
  obtain ⟨v00, v01, v02, v03, v04, v05⟩ := ((HR3.out).set2 2).cells
  have nn1 : ((w3).setCell ⟨b, 2, none⟩ (.int .i64 2)).cell? ⟨g, o + 1, none⟩ = some (.int .i64 f) := cell_only HM.out.2.1 ((HO3.out).setCell (by simp) _) hgl hne
  have fz1 := ((HR3.out).set2 2).free 1
  obtain ⟨v10, v11, v12, v13, v14, v15⟩ := (((HR3.out).set2 2).set1 f).cells
  have fz2 := (((HR3.out).set2 2).set1 f).free 3
  obtain ⟨v20, v21, v22, v23, v24, v25⟩ := ((((HR3.out).set2 2).set1 f).set3 now).cells
  have fz3 := ((((HR3.out).set2 2).set1 f).set3 now).free 4
  obtain ⟨v30, v31, v32, v33, v34, v35⟩ := (((((HR3.out).set2 2).set1 f).set3 now).set4 now).cells
  have HRz : Hid (R6 (((((w3).setCell ⟨b, 2, none⟩ (.int .i64 2)).setCell ⟨b, 1, none⟩ (.int .i64 f)).setCell ⟨b, 3, none⟩ (.int .i64 now)).setCell ⟨b, 4, none⟩ (.int .i64 now)) b me f 2 now now now) := ((((HR3.out).set2 2).set1 f).set3 now).set4 now
  have HOz : Hid (Only [b] w (((((w3).setCell ⟨b, 2, none⟩ (.int .i64 2)).setCell ⟨b, 1, none⟩ (.int .i64 f)).setCell ⟨b, 3, none⟩ (.int .i64 now)).setCell ⟨b, 4, none⟩ (.int .i64 now))) := ((((HO3.out).setCell (by simp) _).setCell (by simp) _).setCell (by simp) _).setCell (by simp) _
  go_wp2_with fail
  go_region
  go_wp2_with fail
  go_ret2
  exact ⟨_, rfl, HRz.out.below (((Below.refl _ _).alloc (Nat.le_refl _) _).drew), msg_newd (by simp [World.setCell]), (HOz.out.alloc _).drew⟩
set_option maxHeartbeats 2000000 in
set_option maxRecDepth 100000 in
theorem rh_newer2m (b g o cap : Nat) (f y me ot st hd sd nw now : Int) (w : World) (h : R6 w b me ot st hd sd nw) (m0 : w.cell? ⟨g, o, none⟩ = some (.int .i64 2)) (m1 : w.cell? ⟨g, o + 1, none⟩ = some (.int .i64 f)) (m2 : w.cell? ⟨g, o + 2, none⟩ = some (.int .i64 y)) (ht : tf nw now = 0) (hne : g ≠ b) (hf0 : 1 ≤ f) (hf1 : f ≤ 1000000) (hy0 : 0 ≤ y) (hy1 : y ≤ 1000000) (hs : st = 2) (hf : ot < f) (hy : y = me) :
    Calls Tryd.prog 8 #[.pointer (some ⟨b, 0, none⟩), .slice (some ⟨g, o, none⟩) 3 cap, .int .i64 now] w fun e w' => ∃ q, e = .returned (.tuple #[.slice (some ⟨q, 0, none⟩) 3 3, .int .i64 0]) ∧ R6 w' b me f 2 now now now ∧ Msg w' q 3 me f ∧ Only [b] w w' := by
  have HT := hidden (time_calls b nw now w h.cells.2.2.2.2.2)
  rw [ht] at HT
  clear ht
  have hgl : g < w.heap.size := World.block_lt_of_cell? w ⟨g, o, none⟩ m0
  have d0 : decide (f < 1) = false := decide_eq_false (by omega)
  have d1 : decide (1000000 < f) = false := decide_eq_false (by omega)
  have d2 : decide (y < 0) = false := decide_eq_false (by omega)
  have d3 : decide (1000000 < y) = false := decide_eq_false (by omega)
  subst hs
  have e1 : decide (f < ot) = false := decide_eq_false (by omega)
  have e2 : (f == ot) = false := by simp; omega
  subst hy
  have HM := hidden (And.intro m0 (And.intro m1 m2))
  have HR0 := hidden h
  obtain ⟨z0, z1, z2, z3, z4, z5⟩ := h.cells
  have f5 := h.free 5
  clear h
  go_enter Tryd.func8, Tryd.ntmps8
  go_wp2_with fail
  refine HT.out.mono ?_
  rintro e w0 ⟨rfl, hw⟩
  obtain rfl := hw.symm
  clear HT
  go_wp2_with fail
  obtain ⟨w1, hw1⟩ : ∃ x, w.setCell ⟨b, 5, none⟩ (.int .i64 now) = x := ⟨_, rfl⟩
  have HR1 : Hid (R6 w1 b y ot 2 hd sd now) := by rw [← hw1]; exact HR0.out.set5 now
  have HO1 : Hid (Only [b] w w1) := by rw [← hw1]; exact (Only.refl _ _).setCell (by simp) _
  rw [hw1]
  clear hw1 z0 z1 z2 z3 z4 z5 f5 m0 m1 m2 HR0 d0 d1 d2 d3
  obtain ⟨y0, y1, y2, y3, y4, y5⟩ := HR1.out.cells
  have n0 : w1.cell? ⟨g, o, none⟩ = some (.int .i64 2) := cell_only HM.out.1 HO1.out hgl hne
  have n1 : w1.cell? ⟨g, o + 1, none⟩ = some (.int .i64 f) := cell_only HM.out.2.1 HO1.out hgl hne
  have n2 : w1.cell? ⟨g, o + 2, none⟩ = some (.int .i64 y) := cell_only HM.out.2.2 HO1.out hgl hne
  go_quiet (fail)
  obtain ⟨w2, hw2⟩ : ∃ x, w1.drewN nq = x := ⟨_, rfl⟩
  have HR2 : Hid (R6 w2 b y ot 2 hd sd now) := by rw [← hw2]; exact HR1.out.below (below_drewN (Below.refl _ _) _)
  have HO2 : Hid (Only [b] w w2) := by rw [← hw2]; exact HO1.out.drewN _
  rw [hw2]
  clear hw2 HR1 HO1 y0 y1 y2 y3 y4 y5 n0 n1 n2
  obtain ⟨y0, y1, y2, y3, y4, y5⟩ := HR2.out.cells
  have n0 : w2.cell? ⟨g, o, none⟩ = some (.int .i64 2) := cell_only HM.out.1 HO2.out hgl hne
  have n1 : w2.cell? ⟨g, o + 1, none⟩ = some (.int .i64 f) := cell_only HM.out.2.1 HO2.out hgl hne
  have n2 : w2.cell? ⟨g, o + 2, none⟩ = some (.int .i64 y) := cell_only HM.out.2.2 HO2.out hgl hne
  go_wp2_with fail
  go_quiet (fail)
  obtain ⟨w3, hw3⟩ : ∃ x, w2.drewN nq = x := ⟨_, rfl⟩
  have HR3 : Hid (R6 w3 b y ot 2 hd sd now) := by rw [← hw3]; exact HR2.out.below (below_drewN (Below.refl _ _) _)
  have HO3 : Hid (Only [b] w w3) := by rw [← hw3]; exact HO2.out.drewN _
  rw [hw3]
  clear hw3 HR2 HO2 y0 y1 y2 y3 y4 y5 n0 n1 n2
  obtain ⟨y0, y1, y2, y3, y4, y5⟩ := HR3.out.cells
  have n0 : w3.cell? ⟨g, o, none⟩ = some (.int .i64 2) := cell_only HM.out.1 HO3.out hgl hne
  have n1 : w3.cell? ⟨g, o + 1, none⟩ = some (.int .i64 f) := cell_only HM.out.2.1 HO3.out hgl hne
  have n2 : w3.cell? ⟨g, o + 2, none⟩ = some (.int .i64 y) := cell_only HM.out.2.2 HO3.out hgl hne
  go_wp2_with fail
  go_quiet (fail)
  obtain ⟨w4, hw4⟩ : ∃ x, w3.drewN nq = x := ⟨_, rfl⟩
  have HR4 : Hid (R6 w4 b y ot 2 hd sd now) := by rw [← hw4]; exact HR3.out.below (below_drewN (Below.refl _ _) _)
  have HO4 : Hid (Only [b] w w4) := by rw [← hw4]; exact HO3.out.drewN _
  rw [hw4]
  clear hw4 HR3 HO3 y0 y1 y2 y3 y4 y5 n0 n1 n2
  obtain ⟨y0, y1, y2, y3, y4, y5⟩ := HR4.out.cells
  have n0 : w4.cell? ⟨g, o, none⟩ = some (.int .i64 2) := cell_only HM.out.1 HO4.out hgl hne
  have n1 : w4.cell? ⟨g, o + 1, none⟩ = some (.int .i64 f) := cell_only HM.out.2.1 HO4.out hgl hne
  have n2 : w4.cell? ⟨g, o + 2, none⟩ = some (.int .i64 y) := cell_only HM.out.2.2 HO4.out hgl hne
  have fz0 := (HR4.out).free 2
  obtain ⟨v00, v01, v02, v03, v04, v05⟩ := ((HR4.out).set2 2).cells
  have nn1 : ((w4).setCell ⟨b, 2, none⟩ (.int .i64 2)).cell? ⟨g, o + 1, none⟩ = some (.int .i64 f) := cell_only HM.out.2.1 ((HO4.out).setCell (by simp) _) hgl hne
  have fz1 := ((HR4.out).set2 2).free 1
  obtain ⟨v10, v11, v12, v13, v14, v15⟩ := (((HR4.out).set2 2).set1 f).cells
  have fz2 := (((HR4.out).set2 2).set1 f).free 3
  obtain ⟨v20, v21, v22, v23, v24, v25⟩ := ((((HR4.out).set2 2).set1 f).set3 now).cells
  have fz3 := ((((HR4.out).set2 2).set1 f).set3 now).free 4
  obtain ⟨v30, v31, v32, v33, v34, v35⟩ := (((((HR4.out).set2 2).set1 f).set3 now).set4 now).cells
  have HRz : Hid (R6 (((((w4).setCell ⟨b, 2, none⟩ (.int .i64 2)).setCell ⟨b, 1, none⟩ (.int .i64 f)).setCell ⟨b, 3, none⟩ (.int .i64 now)).setCell ⟨b, 4, none⟩ (.int .i64 now)) b y f 2 now now now) := ((((HR4.out).set2 2).set1 f).set3 now).set4 now
  have HOz : Hid (Only [b] w (((((w4).setCell ⟨b, 2, none⟩ (.int .i64 2)).setCell ⟨b, 1, none⟩ (.int .i64 f)).setCell ⟨b, 3, none⟩ (.int .i64 now)).setCell ⟨b, 4, none⟩ (.int .i64 now))) := ((((HO4.out).setCell (by simp) _).setCell (by simp) _).setCell (by simp) _).setCell (by simp) _
  go_wp2_with fail
  go_region
  go_wp2_with fail
  go_ret2
  exact ⟨_, rfl, HRz.out.below (((Below.refl _ _).alloc (Nat.le_refl _) _).drew), msg_newd (by simp [World.setCell]), (HOz.out.alloc _).drew⟩
set_option maxHeartbeats 2000000 in
set_option maxRecDepth 100000 in
theorem rh_newer2x (b g o cap : Nat) (f y me ot st hd sd nw now : Int) (w : World) (h : R6 w b me ot st hd sd nw) (m0 : w.cell? ⟨g, o, none⟩ = some (.int .i64 2)) (m1 : w.cell? ⟨g, o + 1, none⟩ = some (.int .i64 f)) (m2 : w.cell? ⟨g, o + 2, none⟩ = some (.int .i64 y)) (ht : tf nw now = 0) (hne : g ≠ b) (hf0 : 1 ≤ f) (hf1 : f ≤ 1000000) (hy0 : 0 ≤ y) (hy1 : y ≤ 1000000) (hs : st = 2) (hf : ot < f) (hy : y ≠ me) :
    Calls Tryd.prog 8 #[.pointer (some ⟨b, 0, none⟩), .slice (some ⟨g, o, none⟩) 3 cap, .int .i64 now] w fun e w' => e = .returned (.tuple #[.slice none 0 0, .int .i64 0]) ∧ R6 w' b me ot 2 hd sd now ∧ Only [b] w w' := by
  have HT := hidden (time_calls b nw now w h.cells.2.2.2.2.2)
  rw [ht] at HT
  clear ht
  have hgl : g < w.heap.size := World.block_lt_of_cell? w ⟨g, o, none⟩ m0
  have d0 : decide (f < 1) = false := decide_eq_false (by omega)
  have d1 : decide (1000000 < f) = false := decide_eq_false (by omega)
  have d2 : decide (y < 0) = false := decide_eq_false (by omega)
  have d3 : decide (1000000 < y) = false := decide_eq_false (by omega)
  subst hs
  have e1 : decide (f < ot) = false := decide_eq_false (by omega)
  have e2 : (f == ot) = false := by simp; omega
  have e3 : (y == me) = false := by simpa using hy
  have e4 : (y != me) = true := by simpa using hy
  have HM := hidden (And.intro m0 (And.intro m1 m2))
  have HR0 := hidden h
  obtain ⟨z0, z1, z2, z3, z4, z5⟩ := h.cells
  have f5 := h.free 5
  clear h
  go_enter Tryd.func8, Tryd.ntmps8
  go_wp2_with fail
  refine HT.out.mono ?_
  rintro e w0 ⟨rfl, hw⟩
  obtain rfl := hw.symm
  clear HT
  go_wp2_with fail
  obtain ⟨w1, hw1⟩ : ∃ x, w.setCell ⟨b, 5, none⟩ (.int .i64 now) = x := ⟨_, rfl⟩
  have HR1 : Hid (R6 w1 b me ot 2 hd sd now) := by rw [← hw1]; exact HR0.out.set5 now
  have HO1 : Hid (Only [b] w w1) := by rw [← hw1]; exact (Only.refl _ _).setCell (by simp) _
  rw [hw1]
  clear hw1 z0 z1 z2 z3 z4 z5 f5 m0 m1 m2 HR0 d0 d1 d2 d3
  obtain ⟨y0, y1, y2, y3, y4, y5⟩ := HR1.out.cells
  have n0 : w1.cell? ⟨g, o, none⟩ = some (.int .i64 2) := cell_only HM.out.1 HO1.out hgl hne
  have n1 : w1.cell? ⟨g, o + 1, none⟩ = some (.int .i64 f) := cell_only HM.out.2.1 HO1.out hgl hne
  have n2 : w1.cell? ⟨g, o + 2, none⟩ = some (.int .i64 y) := cell_only HM.out.2.2 HO1.out hgl hne
  go_quiet (fail)
  obtain ⟨w2, hw2⟩ : ∃ x, w1.drewN nq = x := ⟨_, rfl⟩
  have HR2 : Hid (R6 w2 b me ot 2 hd sd now) := by rw [← hw2]; exact HR1.out.below (below_drewN (Below.refl _ _) _)
  have HO2 : Hid (Only [b] w w2) := by rw [← hw2]; exact HO1.out.drewN _
  rw [hw2]
  clear hw2 HR1 HO1 y0 y1 y2 y3 y4 y5 n0 n1 n2
  obtain ⟨y0, y1, y2, y3, y4, y5⟩ := HR2.out.cells
  have n0 : w2.cell? ⟨g, o, none⟩ = some (.int .i64 2) := cell_only HM.out.1 HO2.out hgl hne
  have n1 : w2.cell? ⟨g, o + 1, none⟩ = some (.int .i64 f) := cell_only HM.out.2.1 HO2.out hgl hne
  have n2 : w2.cell? ⟨g, o + 2, none⟩ = some (.int .i64 y) := cell_only HM.out.2.2 HO2.out hgl hne
  go_wp2_with fail
  go_quiet (fail)
  obtain ⟨w3, hw3⟩ : ∃ x, w2.drewN nq = x := ⟨_, rfl⟩
  have HR3 : Hid (R6 w3 b me ot 2 hd sd now) := by rw [← hw3]; exact HR2.out.below (below_drewN (Below.refl _ _) _)
  have HO3 : Hid (Only [b] w w3) := by rw [← hw3]; exact HO2.out.drewN _
  rw [hw3]
  clear hw3 HR2 HO2 y0 y1 y2 y3 y4 y5 n0 n1 n2
  obtain ⟨y0, y1, y2, y3, y4, y5⟩ := HR3.out.cells
  have n0 : w3.cell? ⟨g, o, none⟩ = some (.int .i64 2) := cell_only HM.out.1 HO3.out hgl hne
  have n1 : w3.cell? ⟨g, o + 1, none⟩ = some (.int .i64 f) := cell_only HM.out.2.1 HO3.out hgl hne
  have n2 : w3.cell? ⟨g, o + 2, none⟩ = some (.int .i64 y) := cell_only HM.out.2.2 HO3.out hgl hne
  go_wp2_with fail
  go_quiet (fail)
  obtain ⟨w4, hw4⟩ : ∃ x, w3.drewN nq = x := ⟨_, rfl⟩
  have HR4 : Hid (R6 w4 b me ot 2 hd sd now) := by rw [← hw4]; exact HR3.out.below (below_drewN (Below.refl _ _) _)
  have HO4 : Hid (Only [b] w w4) := by rw [← hw4]; exact HO3.out.drewN _
  rw [hw4]
  clear hw4 HR3 HO3 y0 y1 y2 y3 y4 y5 n0 n1 n2
  obtain ⟨y0, y1, y2, y3, y4, y5⟩ := HR4.out.cells
  have n0 : w4.cell? ⟨g, o, none⟩ = some (.int .i64 2) := cell_only HM.out.1 HO4.out hgl hne
  have n1 : w4.cell? ⟨g, o + 1, none⟩ = some (.int .i64 f) := cell_only HM.out.2.1 HO4.out hgl hne
  have n2 : w4.cell? ⟨g, o + 2, none⟩ = some (.int .i64 y) := cell_only HM.out.2.2 HO4.out hgl hne
  have HRz : Hid (R6 (w4) b me ot 2 hd sd now) := HR4.out
  have HOz : Hid (Only [b] w (w4)) := HO4.out
  go_wp2_with fail
  go_ret2
  exact ⟨rfl, HRz.out, HOz.out⟩
set_option maxHeartbeats 2000000 in
set_option maxRecDepth 100000 in
theorem rh_newer3m (b g o cap : Nat) (f y me ot st hd sd nw now : Int) (w : World) (h : R6 w b me ot st hd sd nw) (m0 : w.cell? ⟨g, o, none⟩ = some (.int .i64 3)) (m1 : w.cell? ⟨g, o + 1, none⟩ = some (.int .i64 f)) (m2 : w.cell? ⟨g, o + 2, none⟩ = some (.int .i64 y)) (ht : tf nw now = 0) (hne : g ≠ b) (hf0 : 1 ≤ f) (hf1 : f ≤ 1000000) (hy0 : 0 ≤ y) (hy1 : y ≤ 1000000) (hs : st = 2) (hf : ot < f) (hy : y = me) :
    Calls Tryd.prog 8 #[.pointer (some ⟨b, 0, none⟩), .slice (some ⟨g, o, none⟩) 3 cap, .int .i64 now] w fun e w' => e = .returned (.tuple #[.slice none 0 0, .int .i64 0]) ∧ R6 w' b me ot 2 hd sd now ∧ Only [b] w w' := by
  have HT := hidden (time_calls b nw now w h.cells.2.2.2.2.2)
  rw [ht] at HT
  clear ht
  have hgl : g < w.heap.size := World.block_lt_of_cell? w ⟨g, o, none⟩ m0
  have d0 : decide (f < 1) = false := decide_eq_false (by omega)
  have d1 : decide (1000000 < f) = false := decide_eq_false (by omega)
  have d2 : decide (y < 0) = false := decide_eq_false (by omega)
  have d3 : decide (1000000 < y) = false := decide_eq_false (by omega)
  subst hs
  have e1 : decide (f < ot) = false := decide_eq_false (by omega)
  have e2 : (f == ot) = false := by simp; omega
  subst hy
  have HM := hidden (And.intro m0 (And.intro m1 m2))
  have HR0 := hidden h
  obtain ⟨z0, z1, z2, z3, z4, z5⟩ := h.cells
  have f5 := h.free 5
  clear h
  go_enter Tryd.func8, Tryd.ntmps8
  go_wp2_with fail
  refine HT.out.mono ?_
  rintro e w0 ⟨rfl, hw⟩
  obtain rfl := hw.symm
  clear HT
  go_wp2_with fail
  obtain ⟨w1, hw1⟩ : ∃ x, w.setCell ⟨b, 5, none⟩ (.int .i64 now) = x := ⟨_, rfl⟩
  have HR1 : Hid (R6 w1 b y ot 2 hd sd now) := by rw [← hw1]; exact HR0.out.set5 now
  have HO1 : Hid (Only [b] w w1) := by rw [← hw1]; exact (Only.refl _ _).setCell (by simp) _
  rw [hw1]
  clear hw1 z0 z1 z2 z3 z4 z5 f5 m0 m1 m2 HR0 d0 d1 d2 d3
  obtain ⟨y0, y1, y2, y3, y4, y5⟩ := HR1.out.cells
  have n0 : w1.cell? ⟨g, o, none⟩ = some (.int .i64 3) := cell_only HM.out.1 HO1.out hgl hne
  have n1 : w1.cell? ⟨g, o + 1, none⟩ = some (.int .i64 f) := cell_only HM.out.2.1 HO1.out hgl hne
  have n2 : w1.cell? ⟨g, o + 2, none⟩ = some (.int .i64 y) := cell_only HM.out.2.2 HO1.out hgl hne
  go_quiet (fail)
  obtain ⟨w2, hw2⟩ : ∃ x, w1.drewN nq = x := ⟨_, rfl⟩
  have HR2 : Hid (R6 w2 b y ot 2 hd sd now) := by rw [← hw2]; exact HR1.out.below (below_drewN (Below.refl _ _) _)
  have HO2 : Hid (Only [b] w w2) := by rw [← hw2]; exact HO1.out.drewN _
  rw [hw2]
  clear hw2 HR1 HO1 y0 y1 y2 y3 y4 y5 n0 n1 n2
  obtain ⟨y0, y1, y2, y3, y4, y5⟩ := HR2.out.cells
  have n0 : w2.cell? ⟨g, o, none⟩ = some (.int .i64 3) := cell_only HM.out.1 HO2.out hgl hne
  have n1 : w2.cell? ⟨g, o + 1, none⟩ = some (.int .i64 f) := cell_only HM.out.2.1 HO2.out hgl hne
  have n2 : w2.cell? ⟨g, o + 2, none⟩ = some (.int .i64 y) := cell_only HM.out.2.2 HO2.out hgl hne
  go_wp2_with fail
  go_quiet (fail)
  obtain ⟨w3, hw3⟩ : ∃ x, w2.drewN nq = x := ⟨_, rfl⟩
  have HR3 : Hid (R6 w3 b y ot 2 hd sd now) := by rw [← hw3]; exact HR2.out.below (below_drewN (Below.refl _ _) _)
  have HO3 : Hid (Only [b] w w3) := by rw [← hw3]; exact HO2.out.drewN _
  rw [hw3]
  clear hw3 HR2 HO2 y0 y1 y2 y3 y4 y5 n0 n1 n2
  obtain ⟨y0, y1, y2, y3, y4, y5⟩ := HR3.out.cells
  have n0 : w3.cell? ⟨g, o, none⟩ = some (.int .i64 3) := cell_only HM.out.1 HO3.out hgl hne
  have n1 : w3.cell? ⟨g, o + 1, none⟩ = some (.int .i64 f) := cell_only HM.out.2.1 HO3.out hgl hne
  have n2 : w3.cell? ⟨g, o + 2, none⟩ = some (.int .i64 y) := cell_only HM.out.2.2 HO3.out hgl hne
  go_wp2_with fail
  go_quiet (fail)
  obtain ⟨w4, hw4⟩ : ∃ x, w3.drewN nq = x := ⟨_, rfl⟩
  have HR4 : Hid (R6 w4 b y ot 2 hd sd now) := by rw [← hw4]; exact HR3.out.below (below_drewN (Below.refl _ _) _)
  have HO4 : Hid (Only [b] w w4) := by rw [← hw4]; exact HO3.out.drewN _
  rw [hw4]
  clear hw4 HR3 HO3 y0 y1 y2 y3 y4 y5 n0 n1 n2
  obtain ⟨y0, y1, y2, y3, y4, y5⟩ := HR4.out.cells
  have n0 : w4.cell? ⟨g, o, none⟩ = some (.int .i64 3) := cell_only HM.out.1 HO4.out hgl hne
  have n1 : w4.cell? ⟨g, o + 1, none⟩ = some (.int .i64 f) := cell_only HM.out.2.1 HO4.out hgl hne
  have n2 : w4.cell? ⟨g, o + 2, none⟩ = some (.int .i64 y) := cell_only HM.out.2.2 HO4.out hgl hne
  have HRz : Hid (R6 (w4) b y ot 2 hd sd now) := HR4.out
  have HOz : Hid (Only [b] w (w4)) := HO4.out
  go_wp2_with fail
  go_ret2
  exact ⟨rfl, HRz.out, HOz.out⟩
set_option maxHeartbeats 2000000 in
set_option maxRecDepth 100000 in
theorem rh_newer3x (b g o cap : Nat) (f y me ot st hd sd nw now : Int) (w : World) (h : R6 w b me ot st hd sd nw) (m0 : w.cell? ⟨g, o, none⟩ = some (.int .i64 3)) (m1 : w.cell? ⟨g, o + 1, none⟩ = some (.int .i64 f)) (m2 : w.cell? ⟨g, o + 2, none⟩ = some (.int .i64 y)) (ht : tf nw now = 0) (hne : g ≠ b) (hf0 : 1 ≤ f) (hf1 : f ≤ 1000000) (hy0 : 0 ≤ y) (hy1 : y ≤ 1000000) (hs : st = 2) (hf : ot < f) (hy : y ≠ me) :
    Calls Tryd.prog 8 #[.pointer (some ⟨b, 0, none⟩), .slice (some ⟨g, o, none⟩) 3 cap, .int .i64 now] w fun e w' => e = .returned (.tuple #[.slice none 0 0, .int .i64 0]) ∧ R6 w' b me ot 2 hd sd now ∧ Only [b] w w' := by
  have HT := hidden (time_calls b nw now w h.cells.2.2.2.2.2)
  rw [ht] at HT
  clear ht
  have hgl : g < w.heap.size := World.block_lt_of_cell? w ⟨g, o, none⟩ m0
  have d0 : decide (f < 1) = false := decide_eq_false (by omega)
  have d1 : decide (1000000 < f) = false := decide_eq_false (by omega)
  have d2 : decide (y < 0) = false := decide_eq_false (by omega)
  have d3 : decide (1000000 < y) = false := decide_eq_false (by omega)
  subst hs
  have e1 : decide (f < ot) = false := decide_eq_false (by omega)
  have e2 : (f == ot) = false := by simp; omega
  have e3 : (y == me) = false := by simpa using hy
  have e4 : (y != me) = true := by simpa using hy
  have HM := hidden (And.intro m0 (And.intro m1 m2))
  have HR0 := hidden h
  obtain ⟨z0, z1, z2, z3, z4, z5⟩ := h.cells
  have f5 := h.free 5
  clear h
  go_enter Tryd.func8, Tryd.ntmps8
  go_wp2_with fail
  refine HT.out.mono ?_
  rintro e w0 ⟨rfl, hw⟩
  obtain rfl := hw.symm
  clear HT
  go_wp2_with fail
  obtain ⟨w1, hw1⟩ : ∃ x, w.setCell ⟨b, 5, none⟩ (.int .i64 now) = x := ⟨_, rfl⟩
  have HR1 : Hid (R6 w1 b me ot 2 hd sd now) := by rw [← hw1]; exact HR0.out.set5 now
  have HO1 : Hid (Only [b] w w1) := by rw [← hw1]; exact (Only.refl _ _).setCell (by simp) _
  rw [hw1]
  clear hw1 z0 z1 z2 z3 z4 z5 f5 m0 m1 m2 HR0 d0 d1 d2 d3
  obtain ⟨y0, y1, y2, y3, y4, y5⟩ := HR1.out.cells
  have n0 : w1.cell? ⟨g, o, none⟩ = some (.int .i64 3) := cell_only HM.out.1 HO1.out hgl hne
  have n1 : w1.cell? ⟨g, o + 1, none⟩ = some (.int .i64 f) := cell_only HM.out.2.1 HO1.out hgl hne
  have n2 : w1.cell? ⟨g, o + 2, none⟩ = some (.int .i64 y) := cell_only HM.out.2.2 HO1.out hgl hne
  go_quiet (fail)
  obtain ⟨w2, hw2⟩ : ∃ x, w1.drewN nq = x := ⟨_, rfl⟩
  have HR2 : Hid (R6 w2 b me ot 2 hd sd now) := by rw [← hw2]; exact HR1.out.below (below_drewN (Below.refl _ _) _)
  have HO2 : Hid (Only [b] w w2) := by rw [← hw2]; exact HO1.out.drewN _
  rw [hw2]
  clear hw2 HR1 HO1 y0 y1 y2 y3 y4 y5 n0 n1 n2
  obtain ⟨y0, y1, y2, y3, y4, y5⟩ := HR2.out.cells
  have n0 : w2.cell? ⟨g, o, none⟩ = some (.int .i64 3) := cell_only HM.out.1 HO2.out hgl hne
  have n1 : w2.cell? ⟨g, o + 1, none⟩ = some (.int .i64 f) := cell_only HM.out.2.1 HO2.out hgl hne
  have n2 : w2.cell? ⟨g, o + 2, none⟩ = some (.int .i64 y) := cell_only HM.out.2.2 HO2.out hgl hne
  go_wp2_with fail
  go_quiet (fail)
  obtain ⟨w3, hw3⟩ : ∃ x, w2.drewN nq = x := ⟨_, rfl⟩
  have HR3 : Hid (R6 w3 b me ot 2 hd sd now) := by rw [← hw3]; exact HR2.out.below (below_drewN (Below.refl _ _) _)
  have HO3 : Hid (Only [b] w w3) := by rw [← hw3]; exact HO2.out.drewN _
  rw [hw3]
  clear hw3 HR2 HO2 y0 y1 y2 y3 y4 y5 n0 n1 n2
  obtain ⟨y0, y1, y2, y3, y4, y5⟩ := HR3.out.cells
  have n0 : w3.cell? ⟨g, o, none⟩ = some (.int .i64 3) := cell_only HM.out.1 HO3.out hgl hne
  have n1 : w3.cell? ⟨g, o + 1, none⟩ = some (.int .i64 f) := cell_only HM.out.2.1 HO3.out hgl hne
  have n2 : w3.cell? ⟨g, o + 2, none⟩ = some (.int .i64 y) := cell_only HM.out.2.2 HO3.out hgl hne
  go_wp2_with fail
  go_quiet (fail)
  obtain ⟨w4, hw4⟩ : ∃ x, w3.drewN nq = x := ⟨_, rfl⟩
  have HR4 : Hid (R6 w4 b me ot 2 hd sd now) := by rw [← hw4]; exact HR3.out.below (below_drewN (Below.refl _ _) _)
  have HO4 : Hid (Only [b] w w4) := by rw [← hw4]; exact HO3.out.drewN _
  rw [hw4]
  clear hw4 HR3 HO3 y0 y1 y2 y3 y4 y5 n0 n1 n2
  obtain ⟨y0, y1, y2, y3, y4, y5⟩ := HR4.out.cells
  have n0 : w4.cell? ⟨g, o, none⟩ = some (.int .i64 3) := cell_only HM.out.1 HO4.out hgl hne
  have n1 : w4.cell? ⟨g, o + 1, none⟩ = some (.int .i64 f) := cell_only HM.out.2.1 HO4.out hgl hne
  have n2 : w4.cell? ⟨g, o + 2, none⟩ = some (.int .i64 y) := cell_only HM.out.2.2 HO4.out hgl hne
  have HRz : Hid (R6 (w4) b me ot 2 hd sd now) := HR4.out
  have HOz : Hid (Only [b] w (w4)) := HO4.out
  go_wp2_with fail
  go_ret2
  exact ⟨rfl, HRz.out, HOz.out⟩
/-- Hear of a message that is one -/
theorem rher_calls (b g o cap : Nat) (s : Lk) (k f y now : Int) (w : World) (h : RAt w b s) (hI : Inv s) (m0 : w.cell? ⟨g, o, none⟩ = some (.int .i64 k)) (m1 : w.cell? ⟨g, o + 1, none⟩ = some (.int .i64 f)) (m2 : w.cell? ⟨g, o + 2, none⟩ = some (.int .i64 y)) (ht : tf s.nw now = 0) (hne : g ≠ b) (k0 : 1 ≤ k) (k1 : k ≤ 3) (f0 : 1 ≤ f) (f1 : f ≤ 1000000) (y0 : 0 ≤ y) (y1 : y ≤ 1000000) :
    Calls Tryd.prog 8 #[.pointer (some ⟨b, 0, none⟩), .slice (some ⟨g, o, none⟩) 3 cap, .int .i64 now] w fun e w' => ∃ v, e = .returned (.tuple #[v, .int .i64 0]) ∧ RAt w' b (her s k f y now).1 ∧ Out w' v (her s k f y now).2 ∧ Only [b] w w' := by
  have h0 := hI.o0
  rcases (show k = 1 ∨ k = 2 ∨ k = 3 by omega) with rfl | rfl | rfl
  · by_cases hs : s.st = 2
    case neg =>
      have h0 := h0 hs
      have e : her s 1 f y now = (⟨now, s.me, 2, f, now, now⟩, [2, s.me, f]) := by unfold her ans; rw [if_neg (by omega), if_neg (by first | omega | (rw [h0]; omega) | simp_all), if_pos rfl]
      rw [e]
      refine (rh_cold1m b g o cap f y _ _ _ _ _ _ now w h m0 m1 m2 ht hne f0 f1 y0 y1 hs).mono ?_
      rintro e w' ⟨q, rfl, hl, hm, ho⟩
      exact ⟨_, rfl, by unfold RAt; simp only; first | exact hl | (rw [hs]; exact hl) | (rw [hs, hf]; exact hl), Out.msg hm, ho⟩
    rcases (show f < s.ot ∨ s.ot = f ∨ s.ot < f by omega) with hf | hf | hf
    · have e : her s 1 f y now = (⟨now, s.me, s.st, s.ot, s.hd, s.sd⟩, []) := by unfold her ans; rw [if_neg (by omega), if_pos (by first | omega | (rw [h0]; omega) | simp_all)]
      rw [e]
      refine (rh_old1m b g o cap f y _ _ _ _ _ _ now w h m0 m1 m2 ht hne f0 f1 y0 y1 hs hf).mono ?_
      rintro e w' ⟨rfl, hl, ho⟩
      exact ⟨_, rfl, by unfold RAt; simp only; first | exact hl | (rw [hs]; exact hl) | (rw [hs, hf]; exact hl), Out.nil0 _, ho⟩
    · have e : her s 1 f y now = (⟨now, s.me, 2, f, now, now⟩, [2, s.me, f]) := by unfold her ans; rw [if_neg (by omega), if_neg (by first | omega | (rw [h0]; omega) | simp_all), if_pos rfl]
      rw [e]
      refine (rh_same1m b g o cap f y _ _ _ _ _ _ now w h m0 m1 m2 ht hne f0 f1 y0 y1 hs hf).mono ?_
      rintro e w' ⟨q, rfl, hl, hm, ho⟩
      exact ⟨_, rfl, by unfold RAt; simp only; first | exact hl | (rw [hs]; exact hl) | (rw [hs, hf]; exact hl), Out.msg hm, ho⟩
    · have e : her s 1 f y now = (⟨now, s.me, 2, f, now, now⟩, [2, s.me, f]) := by unfold her ans; rw [if_neg (by omega), if_neg (by first | omega | (rw [h0]; omega) | simp_all), if_pos rfl]
      rw [e]
      refine (rh_newer1m b g o cap f y _ _ _ _ _ _ now w h m0 m1 m2 ht hne f0 f1 y0 y1 hs hf).mono ?_
      rintro e w' ⟨q, rfl, hl, hm, ho⟩
      exact ⟨_, rfl, by unfold RAt; simp only; first | exact hl | (rw [hs]; exact hl) | (rw [hs, hf]; exact hl), Out.msg hm, ho⟩
  · by_cases hs : s.st = 2
    case neg =>
      have h0 := h0 hs
      by_cases hy : y = s.me
      · have e : her s 2 f y now = (⟨now, s.me, 2, f, now, now⟩, [3, s.me, f]) := by unfold her ans; rw [if_neg (by omega), if_neg (by first | omega | (rw [h0]; omega) | simp_all), if_neg (by omega), if_neg (by first | omega | (rw [h0]; omega))]
        rw [e]
        refine (rh_cold2m b g o cap f y _ _ _ _ _ _ now w h m0 m1 m2 ht hne f0 f1 y0 y1 hs hy).mono ?_
        rintro e w' ⟨q, rfl, hl, hm, ho⟩
        exact ⟨_, rfl, by unfold RAt; simp only; first | exact hl | (rw [hs]; exact hl) | (rw [hs, hf]; exact hl), Out.msg hm, ho⟩
      · have e : her s 2 f y now = (⟨now, s.me, s.st, s.ot, s.hd, s.sd⟩, []) := by unfold her; rw [if_pos ⟨by omega, hy⟩]
        rw [e]
        refine (rh_cold2x b g o cap f y _ _ _ _ _ _ now w h m0 m1 m2 ht hne f0 f1 y0 y1 hs hy).mono ?_
        rintro e w' ⟨rfl, hl, ho⟩
        exact ⟨_, rfl, by unfold RAt; simp only; first | exact hl | (rw [hs]; exact hl) | (rw [hs, hf]; exact hl), Out.nil0 _, ho⟩
    rcases (show f < s.ot ∨ s.ot = f ∨ s.ot < f by omega) with hf | hf | hf
    · by_cases hy : y = s.me
      · have e : her s 2 f y now = (⟨now, s.me, s.st, s.ot, s.hd, s.sd⟩, []) := by unfold her ans; rw [if_neg (by omega), if_pos (by first | omega | (rw [h0]; omega) | simp_all)]
        rw [e]
        refine (rh_old2m b g o cap f y _ _ _ _ _ _ now w h m0 m1 m2 ht hne f0 f1 y0 y1 hs hf hy).mono ?_
        rintro e w' ⟨rfl, hl, ho⟩
        exact ⟨_, rfl, by unfold RAt; simp only; first | exact hl | (rw [hs]; exact hl) | (rw [hs, hf]; exact hl), Out.nil0 _, ho⟩
      · have e : her s 2 f y now = (⟨now, s.me, s.st, s.ot, s.hd, s.sd⟩, []) := by unfold her; rw [if_pos ⟨by omega, hy⟩]
        rw [e]
        refine (rh_old2x b g o cap f y _ _ _ _ _ _ now w h m0 m1 m2 ht hne f0 f1 y0 y1 hs hf hy).mono ?_
        rintro e w' ⟨rfl, hl, ho⟩
        exact ⟨_, rfl, by unfold RAt; simp only; first | exact hl | (rw [hs]; exact hl) | (rw [hs, hf]; exact hl), Out.nil0 _, ho⟩
    · by_cases hy : y = s.me
      · have e : her s 2 f y now = (⟨now, s.me, 2, f, now, s.sd⟩, []) := by unfold her ans; rw [if_neg (by omega), if_neg (by first | omega | (rw [h0]; omega) | simp_all), if_neg (by omega), if_pos (by omega)]
        rw [e]
        refine (rh_same2m b g o cap f y _ _ _ _ _ _ now w h m0 m1 m2 ht hne f0 f1 y0 y1 hs hf hy).mono ?_
        rintro e w' ⟨rfl, hl, ho⟩
        exact ⟨_, rfl, by unfold RAt; simp only; first | exact hl | (rw [hs]; exact hl) | (rw [hs, hf]; exact hl), Out.nil0 _, ho⟩
      · have e : her s 2 f y now = (⟨now, s.me, s.st, s.ot, s.hd, s.sd⟩, []) := by unfold her; rw [if_pos ⟨by omega, hy⟩]
        rw [e]
        refine (rh_same2x b g o cap f y _ _ _ _ _ _ now w h m0 m1 m2 ht hne f0 f1 y0 y1 hs hf hy).mono ?_
        rintro e w' ⟨rfl, hl, ho⟩
        exact ⟨_, rfl, by unfold RAt; simp only; first | exact hl | (rw [hs]; exact hl) | (rw [hs, hf]; exact hl), Out.nil0 _, ho⟩
    · by_cases hy : y = s.me
      · have e : her s 2 f y now = (⟨now, s.me, 2, f, now, now⟩, [3, s.me, f]) := by unfold her ans; rw [if_neg (by omega), if_neg (by first | omega | (rw [h0]; omega) | simp_all), if_neg (by omega), if_neg (by first | omega | (rw [h0]; omega))]
        rw [e]
        refine (rh_newer2m b g o cap f y _ _ _ _ _ _ now w h m0 m1 m2 ht hne f0 f1 y0 y1 hs hf hy).mono ?_
        rintro e w' ⟨q, rfl, hl, hm, ho⟩
        exact ⟨_, rfl, by unfold RAt; simp only; first | exact hl | (rw [hs]; exact hl) | (rw [hs, hf]; exact hl), Out.msg hm, ho⟩
      · have e : her s 2 f y now = (⟨now, s.me, s.st, s.ot, s.hd, s.sd⟩, []) := by unfold her; rw [if_pos ⟨by omega, hy⟩]
        rw [e]
        refine (rh_newer2x b g o cap f y _ _ _ _ _ _ now w h m0 m1 m2 ht hne f0 f1 y0 y1 hs hf hy).mono ?_
        rintro e w' ⟨rfl, hl, ho⟩
        exact ⟨_, rfl, by unfold RAt; simp only; first | exact hl | (rw [hs]; exact hl) | (rw [hs, hf]; exact hl), Out.nil0 _, ho⟩
  · by_cases hs : s.st = 2
    case neg =>
      have h0 := h0 hs
      by_cases hy : y = s.me
      · have e : her s 3 f y now = (⟨now, s.me, s.st, s.ot, s.hd, s.sd⟩, []) := by unfold her ans; rw [if_neg (by omega), if_pos (by first | omega | (rw [h0]; omega) | simp_all)]
        rw [e]
        refine (rh_cold3m b g o cap f y _ _ _ _ _ _ now w h m0 m1 m2 ht hne f0 f1 y0 y1 hs hy).mono ?_
        rintro e w' ⟨rfl, hl, ho⟩
        exact ⟨_, rfl, by unfold RAt; simp only; first | exact hl | (rw [hs]; exact hl) | (rw [hs, hf]; exact hl), Out.nil0 _, ho⟩
      · have e : her s 3 f y now = (⟨now, s.me, s.st, s.ot, s.hd, s.sd⟩, []) := by unfold her; rw [if_pos ⟨by omega, hy⟩]
        rw [e]
        refine (rh_cold3x b g o cap f y _ _ _ _ _ _ now w h m0 m1 m2 ht hne f0 f1 y0 y1 hs hy).mono ?_
        rintro e w' ⟨rfl, hl, ho⟩
        exact ⟨_, rfl, by unfold RAt; simp only; first | exact hl | (rw [hs]; exact hl) | (rw [hs, hf]; exact hl), Out.nil0 _, ho⟩
    rcases (show f < s.ot ∨ s.ot = f ∨ s.ot < f by omega) with hf | hf | hf
    · by_cases hy : y = s.me
      · have e : her s 3 f y now = (⟨now, s.me, s.st, s.ot, s.hd, s.sd⟩, []) := by unfold her ans; rw [if_neg (by omega), if_pos (by first | omega | (rw [h0]; omega) | simp_all)]
        rw [e]
        refine (rh_old3m b g o cap f y _ _ _ _ _ _ now w h m0 m1 m2 ht hne f0 f1 y0 y1 hs hf hy).mono ?_
        rintro e w' ⟨rfl, hl, ho⟩
        exact ⟨_, rfl, by unfold RAt; simp only; first | exact hl | (rw [hs]; exact hl) | (rw [hs, hf]; exact hl), Out.nil0 _, ho⟩
      · have e : her s 3 f y now = (⟨now, s.me, s.st, s.ot, s.hd, s.sd⟩, []) := by unfold her; rw [if_pos ⟨by omega, hy⟩]
        rw [e]
        refine (rh_old3x b g o cap f y _ _ _ _ _ _ now w h m0 m1 m2 ht hne f0 f1 y0 y1 hs hf hy).mono ?_
        rintro e w' ⟨rfl, hl, ho⟩
        exact ⟨_, rfl, by unfold RAt; simp only; first | exact hl | (rw [hs]; exact hl) | (rw [hs, hf]; exact hl), Out.nil0 _, ho⟩
    · by_cases hy : y = s.me
      · have e : her s 3 f y now = (⟨now, s.me, 2, f, now, s.sd⟩, []) := by unfold her ans; rw [if_neg (by omega), if_neg (by first | omega | (rw [h0]; omega) | simp_all), if_neg (by omega), if_pos (by omega)]
        rw [e]
        refine (rh_same3m b g o cap f y _ _ _ _ _ _ now w h m0 m1 m2 ht hne f0 f1 y0 y1 hs hf hy).mono ?_
        rintro e w' ⟨rfl, hl, ho⟩
        exact ⟨_, rfl, by unfold RAt; simp only; first | exact hl | (rw [hs]; exact hl) | (rw [hs, hf]; exact hl), Out.nil0 _, ho⟩
      · have e : her s 3 f y now = (⟨now, s.me, s.st, s.ot, s.hd, s.sd⟩, []) := by unfold her; rw [if_pos ⟨by omega, hy⟩]
        rw [e]
        refine (rh_same3x b g o cap f y _ _ _ _ _ _ now w h m0 m1 m2 ht hne f0 f1 y0 y1 hs hf hy).mono ?_
        rintro e w' ⟨rfl, hl, ho⟩
        exact ⟨_, rfl, by unfold RAt; simp only; first | exact hl | (rw [hs]; exact hl) | (rw [hs, hf]; exact hl), Out.nil0 _, ho⟩
    · by_cases hy : y = s.me
      · have e : her s 3 f y now = (⟨now, s.me, s.st, s.ot, s.hd, s.sd⟩, []) := by unfold her ans; rw [if_neg (by omega), if_pos (by first | omega | (rw [h0]; omega) | simp_all)]
        rw [e]
        refine (rh_newer3m b g o cap f y _ _ _ _ _ _ now w h m0 m1 m2 ht hne f0 f1 y0 y1 hs hf hy).mono ?_
        rintro e w' ⟨rfl, hl, ho⟩
        exact ⟨_, rfl, by unfold RAt; simp only; first | exact hl | (rw [hs]; exact hl) | (rw [hs, hf]; exact hl), Out.nil0 _, ho⟩
      · have e : her s 3 f y now = (⟨now, s.me, s.st, s.ot, s.hd, s.sd⟩, []) := by unfold her; rw [if_pos ⟨by omega, hy⟩]
        rw [e]
        refine (rh_newer3x b g o cap f y _ _ _ _ _ _ now w h m0 m1 m2 ht hne f0 f1 y0 y1 hs hf hy).mono ?_
        rintro e w' ⟨rfl, hl, ho⟩
        exact ⟨_, rfl, by unfold RAt; simp only; first | exact hl | (rw [hs]; exact hl) | (rw [hs, hf]; exact hl), Out.nil0 _, ho⟩
/-- Hear, whatever is given -/
theorem rhear_calls (b n cap : Nat) (a : Option Addr) (s : Lk) (L : List Int) (now : Int) (w : World) (h : RAt w b s) (hI : Inv s) (hA : IArg w a n L) (hab : 0 < n → ∀ ad, a = some ad → ad.block ≠ b) :
    Calls Tryd.prog 8 #[.pointer (some ⟨b, 0, none⟩), .slice a n cap, .int .i64 now] w fun e w' => ∃ v, e = .returned (.tuple #[v, .int .i64 (hF s L now : Int)]) ∧ RAt w' b (hR s L now).1 ∧ Out w' v (hR s L now).2 ∧ Only [b] w w' := by
  by_cases ht : tf s.nw now = 0
  case neg =>
    have e : hF s L now = tf s.nw now := by unfold hF; rw [if_pos ht]
    have e2 : hR s L now = (s, []) := by unfold hR; rw [if_neg (by rw [e]; exact ht)]
    rw [e, e2]
    rcases tf_cases s.nw now with q | q | q
    · exact absurd q ht
    · rw [q]
      refine (rhear_time1 b s.nw now a n cap w h.cells.2.2.2.2.2 q).mono ?_
      rintro e w' ⟨rfl, rfl⟩
      exact ⟨_, rfl, h, Out.nil0 _, Only.refl _ _⟩
    · rw [q]
      refine (rhear_time6 b s.nw now a n cap w h.cells.2.2.2.2.2 q).mono ?_
      rintro e w' ⟨rfl, rfl⟩
      exact ⟨_, rfl, h, Out.nil0 _, Only.refl _ _⟩
  have e : hF s L now = mf L := by unfold hF; rw [if_neg (by simp [ht])]
  by_cases hn : n = 3
  case neg =>
    have e1 : mf L = 3 := by unfold mf; rw [if_pos (by rw [hA.2.1]; exact hn)]
    have e2 : hR s L now = (s, []) := by unfold hR; rw [if_neg (by rw [e, e1]; omega)]
    rw [e, e1, e2]
    refine (rhear_shape b s.nw now a n cap w h.cells.2.2.2.2.2 ht hn).mono ?_
    rintro e w' ⟨rfl, rfl⟩
    exact ⟨_, rfl, h, Out.nil0 _, Only.refl _ _⟩
  subst hn
  obtain ⟨g, o, rfl, hc⟩ := hA.at (by omega)
  have hne : g ≠ b := hab (by omega) _ rfl
  obtain ⟨k, f, y, rfl⟩ : ∃ k f y, L = [k, f, y] := by
    have hl := hA.2.1
    match L, hl with
    | [k, f, y], _ => exact ⟨k, f, y, rfl⟩
  have m0 : w.cell? ⟨g, o, none⟩ = some (.int .i64 k) := hc 0 (by omega)
  have m1 : w.cell? ⟨g, o + 1, none⟩ = some (.int .i64 f) := hc 1 (by omega)
  have m2 : w.cell? ⟨g, o + 2, none⟩ = some (.int .i64 y) := hc 2 (by omega)
  have c5 := h.cells.2.2.2.2.2
  have em : mf [k, f, y] = if k < 1 ∨ 3 < k ∨ f < 1 ∨ 1000000 < f ∨ y < 0 ∨ 1000000 < y then 1 else 0 := by unfold mf; rw [if_neg (by simp)]; rfl
  by_cases hm : k < 1 ∨ 3 < k ∨ f < 1 ∨ 1000000 < f ∨ y < 0 ∨ 1000000 < y
  · rw [if_pos hm] at em
    have e2 : hR s [k, f, y] now = (s, []) := by unfold hR; rw [if_neg (by rw [e, em]; omega)]
    rw [e, em, e2]
    suffices hh : Calls Tryd.prog 8 #[.pointer (some ⟨b, 0, none⟩), .slice (some ⟨g, o, none⟩) 3 cap, .int .i64 now] w fun e w' => e = .returned (.tuple #[.slice none 0 0, .int .i64 1]) ∧ w' = w by
      refine hh.mono ?_
      rintro e w' ⟨rfl, rfl⟩
      exact ⟨_, rfl, h, Out.nil0 _, Only.refl _ _⟩
    by_cases q0 : k < 1
    · exact rhear_k0 b g o cap k f y _ now w c5 m0 m1 m2 ht  q0
    by_cases q1 : 3 < k
    · exact rhear_k1 b g o cap k f y _ now w c5 m0 m1 m2 ht (by omega) q1
    by_cases q2 : f < 1
    · exact rhear_f0 b g o cap k f y _ now w c5 m0 m1 m2 ht (by omega) (by omega) q2
    by_cases q3 : 1000000 < f
    · exact rhear_f1 b g o cap k f y _ now w c5 m0 m1 m2 ht (by omega) (by omega) (by omega) q3
    by_cases q4 : y < 0
    · exact rhear_y0 b g o cap k f y _ now w c5 m0 m1 m2 ht (by omega) (by omega) (by omega) (by omega) q4
    by_cases q5 : 1000000 < y
    · exact rhear_y1 b g o cap k f y _ now w c5 m0 m1 m2 ht (by omega) (by omega) (by omega) (by omega) (by omega) q5
    omega
  · rw [if_neg hm] at em
    have e2 : hR s [k, f, y] now = her s k f y now := by unfold hR; rw [if_pos (by rw [e]; exact em)]; rfl
    rw [e, em, e2]
    exact rher_calls b g o cap s k f y now w h hI m0 m1 m2 ht hne (by omega) (by omega) (by omega) (by omega) (by omega) (by omega)
end Go.Proofs.YtfdbfelcokockaiDoor.RLink
