/-
  The reference's Link in memory; what its time, Open and Tick return, and what they leave in memory.
-/
import Derived.Test.YtfdbfelcokockaiDoorLinkB
namespace Go.Proofs.YtfdbfelcokockaiDoor.RLink
open Go.ChangeShapes Go.WideShapes Go.ChangeAt Go.RowKit Go.Proofs.YtfdbfelcokockaiDoor.Mem Go.Proofs.YtfdbfelcokockaiDoor.LK Go.Proofs.YtfdbfelcokockaiDoor.Link
set_option linter.unusedVariables false

/-- the reference's Link, by its six numbers -/
def R6 (w : World) (b : Nat) (me ot st hd sd nw : Int) : Prop := w.heap[b]? = some (.cells #[.int .i64 me, .int .i64 ot, .int .i64 st, .int .i64 hd, .int .i64 sd, .int .i64 nw] 31 (0, 0))
def RAt (w : World) (b : Nat) (s : Lk) : Prop := R6 w b s.me s.ot s.st s.hd s.sd s.nw
theorem R6.cells {w : World} {b : Nat} {me ot st hd sd nw : Int} (h : R6 w b me ot st hd sd nw) : w.cell? ⟨b, 0, none⟩ = some (.int .i64 me) ∧ w.cell? ⟨b, 1, none⟩ = some (.int .i64 ot) ∧ w.cell? ⟨b, 2, none⟩ = some (.int .i64 st) ∧ w.cell? ⟨b, 3, none⟩ = some (.int .i64 hd) ∧ w.cell? ⟨b, 4, none⟩ = some (.int .i64 sd) ∧ w.cell? ⟨b, 5, none⟩ = some (.int .i64 nw) := by
  simp only [R6] at h
  refine ⟨?_, ?_, ?_, ?_, ?_, ?_⟩ <;> simp [World.cell?, h]
theorem R6.free {w : World} {b : Nat} {me ot st hd sd nw : Int} (h : R6 w b me ot st hd sd nw) (j : Nat) : w.frozen? ⟨b, j, none⟩ = false := by
  simp only [R6] at h
  simp [World.frozen?, h]
theorem R6.lt {w : World} {b : Nat} {me ot st hd sd nw : Int} (h : R6 w b me ot st hd sd nw) : b < w.heap.size := lt_of_block h
theorem R6.only {w w' : World} {b : Nat} {me ot st hd sd nw : Int} {bs : List Nat} (h : R6 w b me ot st hd sd nw) (ho : Only bs w w') (hb : b ∉ bs) : R6 w' b me ot st hd sd nw := ho.block h hb
theorem R6.below {w w' : World} {b : Nat} {me ot st hd sd nw : Int} (h : R6 w b me ot st hd sd nw) (hb : Below w.heap.size w w') : R6 w' b me ot st hd sd nw := h.only (Only.of_below hb []) (by simp)
theorem RAt.only {w w' : World} {b : Nat} {s : Lk} {bs : List Nat} (h : RAt w b s) (ho : Only bs w w') (hb : b ∉ bs) : RAt w' b s := R6.only h ho hb
theorem RAt.below {w w' : World} {b : Nat} {s : Lk} (h : RAt w b s) (hb : Below w.heap.size w w') : RAt w' b s := R6.below h hb
theorem R6.set0 {w : World} {b : Nat} {me ot st hd sd nw : Int} (h : R6 w b me ot st hd sd nw) (x : Int) : R6 (w.setCell ⟨b, 0, none⟩ (.int .i64 x)) b x ot st hd sd nw := heap_setCell_same w b 0 _ _ _ h
theorem R6.set1 {w : World} {b : Nat} {me ot st hd sd nw : Int} (h : R6 w b me ot st hd sd nw) (x : Int) : R6 (w.setCell ⟨b, 1, none⟩ (.int .i64 x)) b me x st hd sd nw := heap_setCell_same w b 1 _ _ _ h
theorem R6.set2 {w : World} {b : Nat} {me ot st hd sd nw : Int} (h : R6 w b me ot st hd sd nw) (x : Int) : R6 (w.setCell ⟨b, 2, none⟩ (.int .i64 x)) b me ot x hd sd nw := heap_setCell_same w b 2 _ _ _ h
theorem R6.set3 {w : World} {b : Nat} {me ot st hd sd nw : Int} (h : R6 w b me ot st hd sd nw) (x : Int) : R6 (w.setCell ⟨b, 3, none⟩ (.int .i64 x)) b me ot st x sd nw := heap_setCell_same w b 3 _ _ _ h
theorem R6.set4 {w : World} {b : Nat} {me ot st hd sd nw : Int} (h : R6 w b me ot st hd sd nw) (x : Int) : R6 (w.setCell ⟨b, 4, none⟩ (.int .i64 x)) b me ot st hd x nw := heap_setCell_same w b 4 _ _ _ h
theorem R6.set5 {w : World} {b : Nat} {me ot st hd sd nw : Int} (h : R6 w b me ot st hd sd nw) (x : Int) : R6 (w.setCell ⟨b, 5, none⟩ (.int .i64 x)) b me ot st hd sd x := heap_setCell_same w b 5 _ _ _ h
theorem time0 (y : Int) (w : World) : Calls Tryd.prog 23 #[.int .i64 y] w fun e w' => e = .returned (.bool (decide (0 ≤ y ∧ y ≤ 1000000))) ∧ w' = w := by
  by_cases h : 0 ≤ y
  · have d : decide (0 ≤ y) = true := by simpa using h
    go_enter Tryd.func23, Tryd.ntmps23
    go_wp2_with fail
    go_ret
    exact ⟨by simp [h], rfl⟩
  · have d : decide (0 ≤ y) = false := by simpa using h
    go_enter Tryd.func23, Tryd.ntmps23
    go_wp2_with fail
    go_ret
    exact ⟨by simp, rfl⟩
theorem time_calls (b : Nat) (nw now : Int) (w : World) (c5 : w.cell? ⟨b, 5, none⟩ = some (.int .i64 nw)) :
    Calls Tryd.prog 17 #[.pointer (some ⟨b, 0, none⟩), .int .i64 now] w fun e w' => e = .returned (.int .i64 (tf nw now : Int)) ∧ w' = w := by
  have H := time0 now w
  by_cases c : now < 0 ∨ 1000000 < now
  · have e : tf nw now = 1 := by unfold tf; rw [if_pos c]
    rw [show decide (0 ≤ now ∧ now ≤ 1000000) = false by simp; omega] at H
    rw [e]
    have HH := hidden H
    clear H e c
    go_enter Tryd.func17, Tryd.ntmps17
    go_wp2_with fail
    refine HH.out.mono ?_
    rintro e w1 ⟨rfl, hw⟩
    obtain rfl := hw.symm
    go_wp2_with fail
    go_ret
    exact ⟨rfl, rfl⟩
  rw [show decide (0 ≤ now ∧ now ≤ 1000000) = true by simp; omega] at H
  have HH := hidden H
  by_cases c2 : now < nw
  · have e : tf nw now = 6 := by unfold tf; rw [if_neg c, if_pos c2]
    rw [e]
    clear H e c
    go_enter Tryd.func17, Tryd.ntmps17
    go_wp2_with fail
    refine HH.out.mono ?_
    rintro e w1 ⟨rfl, hw⟩
    obtain rfl := hw.symm
    go_wp2_with fail
    go_ret
    exact ⟨rfl, rfl⟩
  · have e : tf nw now = 0 := by unfold tf; rw [if_neg c, if_neg c2]
    rw [e]
    clear H e c
    go_enter Tryd.func17, Tryd.ntmps17
    go_wp2_with fail
    refine HH.out.mono ?_
    rintro e w1 ⟨rfl, hw⟩
    obtain rfl := hw.symm
    go_wp2_with fail
    go_ret
    exact ⟨rfl, rfl⟩
theorem msg_new {W : World} {n : Nat} {k f y : Int} (h : n = W.heap.size) : Msg (W.alloc (.cells #[.int .i64 k, .int .i64 f, .int .i64 y] 3)) n k f y := by
  subst h
  exact heap_alloc_new _ _
theorem msg_newd {W : World} {n : Nat} {k f y : Int} (h : n = W.heap.size) : Msg (W.alloc (.cells #[.int .i64 k, .int .i64 f, .int .i64 y] 3)).drew n k f y := msg_new h
theorem tf_cases (nw now : Int) : tf nw now = 0 ∨ tf nw now = 1 ∨ tf nw now = 6 := by unfold tf; split <;> (try split) <;> simp
set_option maxHeartbeats 1000000 in
theorem ropen_time1 (b : Nat) (nw now : Int) (w : World) (c5 : w.cell? ⟨b, 5, none⟩ = some (.int .i64 nw)) (ht : tf nw now = 1) :
    Calls Tryd.prog 6 #[.pointer (some ⟨b, 0, none⟩), .int .i64 now] w fun e w' => e = .returned (.tuple #[.slice none 0 0, .int .i64 1]) ∧ w' = w := by
  have HT := hidden (time_calls b nw now w c5)
  rw [ht] at HT
  clear ht
  go_enter Tryd.func6, Tryd.ntmps6
  go_wp2_with fail
  refine HT.out.mono ?_
  rintro e w0 ⟨rfl, hw⟩
  obtain rfl := hw.symm
  clear HT
  go_wp2_with fail
  go_ret2
  exact ⟨rfl, rfl⟩
set_option maxHeartbeats 1000000 in
theorem rtick_time1 (b : Nat) (nw now : Int) (w : World) (c5 : w.cell? ⟨b, 5, none⟩ = some (.int .i64 nw)) (ht : tf nw now = 1) :
    Calls Tryd.prog 10 #[.pointer (some ⟨b, 0, none⟩), .int .i64 now] w fun e w' => e = .returned (.tuple #[.slice none 0 0, .int .i64 1]) ∧ w' = w := by
  have HT := hidden (time_calls b nw now w c5)
  rw [ht] at HT
  clear ht
  go_enter Tryd.func10, Tryd.ntmps10
  go_wp2_with fail
  refine HT.out.mono ?_
  rintro e w0 ⟨rfl, hw⟩
  obtain rfl := hw.symm
  clear HT
  go_wp2_with fail
  go_ret2
  exact ⟨rfl, rfl⟩
set_option maxHeartbeats 1000000 in
theorem ropen_time6 (b : Nat) (nw now : Int) (w : World) (c5 : w.cell? ⟨b, 5, none⟩ = some (.int .i64 nw)) (ht : tf nw now = 6) :
    Calls Tryd.prog 6 #[.pointer (some ⟨b, 0, none⟩), .int .i64 now] w fun e w' => e = .returned (.tuple #[.slice none 0 0, .int .i64 6]) ∧ w' = w := by
  have HT := hidden (time_calls b nw now w c5)
  rw [ht] at HT
  clear ht
  go_enter Tryd.func6, Tryd.ntmps6
  go_wp2_with fail
  refine HT.out.mono ?_
  rintro e w0 ⟨rfl, hw⟩
  obtain rfl := hw.symm
  clear HT
  go_wp2_with fail
  go_ret2
  exact ⟨rfl, rfl⟩
set_option maxHeartbeats 1000000 in
theorem rtick_time6 (b : Nat) (nw now : Int) (w : World) (c5 : w.cell? ⟨b, 5, none⟩ = some (.int .i64 nw)) (ht : tf nw now = 6) :
    Calls Tryd.prog 10 #[.pointer (some ⟨b, 0, none⟩), .int .i64 now] w fun e w' => e = .returned (.tuple #[.slice none 0 0, .int .i64 6]) ∧ w' = w := by
  have HT := hidden (time_calls b nw now w c5)
  rw [ht] at HT
  clear ht
  go_enter Tryd.func10, Tryd.ntmps10
  go_wp2_with fail
  refine HT.out.mono ?_
  rintro e w0 ⟨rfl, hw⟩
  obtain rfl := hw.symm
  clear HT
  go_wp2_with fail
  go_ret2
  exact ⟨rfl, rfl⟩
set_option maxHeartbeats 1000000 in
theorem ropen_warm (b : Nat) (me ot st hd sd nw now : Int) (w : World) (h : R6 w b me ot st hd sd nw) (ht : tf nw now = 0) (hs : st = 2) :
    Calls Tryd.prog 6 #[.pointer (some ⟨b, 0, none⟩), .int .i64 now] w fun e w' => e = .returned (.tuple #[.slice none 0 0, .int .i64 6]) ∧ R6 w' b me ot 2 hd sd nw ∧ Only [b] w w' := by
  obtain ⟨j1, j2, j3⟩ := tf_zero ht
  have HT := hidden (time_calls b nw now w h.cells.2.2.2.2.2)
  rw [ht] at HT
  clear ht
  subst hs
  obtain ⟨y0, y1, y2, y3, y4, y5⟩ := (h).cells
  have HR : Hid (R6 (w) b me ot 2 hd sd nw) := h
  have HO : Hid (Only [b] w (w)) := (Only.refl [b] w)
  clear h
  go_enter Tryd.func6, Tryd.ntmps6
  go_wp2_with fail
  refine HT.out.mono ?_
  rintro e w0 ⟨rfl, hw⟩
  obtain rfl := hw.symm
  clear HT
  go_wp2_with fail
  go_ret2
  exact ⟨rfl, HR.out, HO.out⟩
set_option maxHeartbeats 1000000 in
theorem ropen_ok (b : Nat) (me ot st hd sd nw now : Int) (w : World) (h : R6 w b me ot st hd sd nw) (ht : tf nw now = 0) (hs : st ≠ 2) :
    Calls Tryd.prog 6 #[.pointer (some ⟨b, 0, none⟩), .int .i64 now] w fun e w' => ∃ g, e = .returned (.tuple #[.slice (some ⟨g, 0, none⟩) 3 3, .int .i64 0]) ∧ R6 w' b me ot 1 hd now now ∧ Msg w' g 1 me 0 ∧ Only [b] w w' := by
  obtain ⟨j1, j2, j3⟩ := tf_zero ht
  have HT := hidden (time_calls b nw now w h.cells.2.2.2.2.2)
  rw [ht] at HT
  clear ht
  have d1 : (st == 2) = false := by simpa using hs
  have fz0 := (h).free 5
  obtain ⟨x00, x01, x02, x03, x04, x05⟩ := (h).cells
  have fz1 := ((h).set5 now).free 4
  obtain ⟨x10, x11, x12, x13, x14, x15⟩ := ((h).set5 now).cells
  have fz2 := (((h).set5 now).set4 now).free 2
  obtain ⟨x20, x21, x22, x23, x24, x25⟩ := (((h).set5 now).set4 now).cells
  obtain ⟨y0, y1, y2, y3, y4, y5⟩ := ((((h).set5 now).set4 now).set2 1).cells
  have HR : Hid (R6 ((((w).setCell ⟨b, 5, none⟩ (.int .i64 now)).setCell ⟨b, 4, none⟩ (.int .i64 now)).setCell ⟨b, 2, none⟩ (.int .i64 1)) b me ot 1 hd now now) := (((h).set5 now).set4 now).set2 1
  have HO : Hid (Only [b] w ((((w).setCell ⟨b, 5, none⟩ (.int .i64 now)).setCell ⟨b, 4, none⟩ (.int .i64 now)).setCell ⟨b, 2, none⟩ (.int .i64 1))) := ((((Only.refl [b] w)).setCell (by simp) _).setCell (by simp) _).setCell (by simp) _
  clear h
  go_enter Tryd.func6, Tryd.ntmps6
  go_wp2_with fail
  refine HT.out.mono ?_
  rintro e w0 ⟨rfl, hw⟩
  obtain rfl := hw.symm
  clear HT
  go_wp2_with fail
  go_ret2
  exact ⟨_, rfl, HR.out.below ((Below.refl _ _).alloc (Nat.le_refl _) _), msg_new (by simp [World.setCell]), HO.out.alloc _⟩
set_option maxHeartbeats 1000000 in
theorem rtick_cold (b : Nat) (me ot st hd sd nw now : Int) (w : World) (h : R6 w b me ot st hd sd nw) (ht : tf nw now = 0) (hh0 : 0 ≤ hd) (hh1 : hd ≤ nw) (hs0 : 0 ≤ sd) (hs1 : sd ≤ nw) (hs : st = 2) (hq : 30 ≤ now - hd) :
    Calls Tryd.prog 10 #[.pointer (some ⟨b, 0, none⟩), .int .i64 now] w fun e w' => e = .returned (.tuple #[.slice none 0 0, .int .i64 0]) ∧ R6 w' b me 0 0 hd sd now ∧ Only [b] w w' := by
  obtain ⟨j1, j2, j3⟩ := tf_zero ht
  have HT := hidden (time_calls b nw now w h.cells.2.2.2.2.2)
  rw [ht] at HT
  clear ht
  subst hs
  have t30 : decide (30 ≤ now - hd) = true := decide_eq_true hq
  have fz0 := (h).free 5
  obtain ⟨x00, x01, x02, x03, x04, x05⟩ := (h).cells
  have fz1 := ((h).set5 now).free 2
  obtain ⟨x10, x11, x12, x13, x14, x15⟩ := ((h).set5 now).cells
  have fz2 := (((h).set5 now).set2 0).free 1
  obtain ⟨x20, x21, x22, x23, x24, x25⟩ := (((h).set5 now).set2 0).cells
  obtain ⟨y0, y1, y2, y3, y4, y5⟩ := ((((h).set5 now).set2 0).set1 0).cells
  have HR : Hid (R6 ((((w).setCell ⟨b, 5, none⟩ (.int .i64 now)).setCell ⟨b, 2, none⟩ (.int .i64 0)).setCell ⟨b, 1, none⟩ (.int .i64 0)) b me 0 0 hd sd now) := (((h).set5 now).set2 0).set1 0
  have HO : Hid (Only [b] w ((((w).setCell ⟨b, 5, none⟩ (.int .i64 now)).setCell ⟨b, 2, none⟩ (.int .i64 0)).setCell ⟨b, 1, none⟩ (.int .i64 0))) := ((((Only.refl [b] w)).setCell (by simp) _).setCell (by simp) _).setCell (by simp) _
  clear h
  go_enter Tryd.func10, Tryd.ntmps10
  go_wp2_with fail
  refine HT.out.mono ?_
  rintro e w0 ⟨rfl, hw⟩
  obtain rfl := hw.symm
  clear HT
  go_wp2_with fail
  go_ret2
  exact ⟨rfl, HR.out, HO.out⟩
set_option maxHeartbeats 1000000 in
theorem rtick_zero (b : Nat) (me ot st hd sd nw now : Int) (w : World) (h : R6 w b me ot st hd sd nw) (ht : tf nw now = 0) (hh0 : 0 ≤ hd) (hh1 : hd ≤ nw) (hs0 : 0 ≤ sd) (hs1 : sd ≤ nw) (hs : st = 0) :
    Calls Tryd.prog 10 #[.pointer (some ⟨b, 0, none⟩), .int .i64 now] w fun e w' => e = .returned (.tuple #[.slice none 0 0, .int .i64 0]) ∧ R6 w' b me ot 0 hd sd now ∧ Only [b] w w' := by
  obtain ⟨j1, j2, j3⟩ := tf_zero ht
  have HT := hidden (time_calls b nw now w h.cells.2.2.2.2.2)
  rw [ht] at HT
  clear ht
  subst hs
  have fz0 := (h).free 5
  obtain ⟨x00, x01, x02, x03, x04, x05⟩ := (h).cells
  obtain ⟨y0, y1, y2, y3, y4, y5⟩ := ((h).set5 now).cells
  have HR : Hid (R6 ((w).setCell ⟨b, 5, none⟩ (.int .i64 now)) b me ot 0 hd sd now) := (h).set5 now
  have HO : Hid (Only [b] w ((w).setCell ⟨b, 5, none⟩ (.int .i64 now))) := ((Only.refl [b] w)).setCell (by simp) _
  clear h
  go_enter Tryd.func10, Tryd.ntmps10
  go_wp2_with fail
  refine HT.out.mono ?_
  rintro e w0 ⟨rfl, hw⟩
  obtain rfl := hw.symm
  clear HT
  go_wp2_with fail
  go_ret2
  exact ⟨rfl, HR.out, HO.out⟩
set_option maxHeartbeats 1000000 in
theorem rtick_soonW (b : Nat) (me ot st hd sd nw now : Int) (w : World) (h : R6 w b me ot st hd sd nw) (ht : tf nw now = 0) (hh0 : 0 ≤ hd) (hh1 : hd ≤ nw) (hs0 : 0 ≤ sd) (hs1 : sd ≤ nw) (hs : st = 2) (hr : now - hd < 30) (hq : now - sd < 10) :
    Calls Tryd.prog 10 #[.pointer (some ⟨b, 0, none⟩), .int .i64 now] w fun e w' => e = .returned (.tuple #[.slice none 0 0, .int .i64 0]) ∧ R6 w' b me ot 2 hd sd now ∧ Only [b] w w' := by
  obtain ⟨j1, j2, j3⟩ := tf_zero ht
  have HT := hidden (time_calls b nw now w h.cells.2.2.2.2.2)
  rw [ht] at HT
  clear ht
  subst hs
  have t30 : decide (30 ≤ now - hd) = false := decide_eq_false (by omega)
  have t10 : decide (now - sd < 10) = true := decide_eq_true hq
  have fz0 := (h).free 5
  obtain ⟨x00, x01, x02, x03, x04, x05⟩ := (h).cells
  obtain ⟨y0, y1, y2, y3, y4, y5⟩ := ((h).set5 now).cells
  have HR : Hid (R6 ((w).setCell ⟨b, 5, none⟩ (.int .i64 now)) b me ot 2 hd sd now) := (h).set5 now
  have HO : Hid (Only [b] w ((w).setCell ⟨b, 5, none⟩ (.int .i64 now))) := ((Only.refl [b] w)).setCell (by simp) _
  clear h
  go_enter Tryd.func10, Tryd.ntmps10
  go_wp2_with fail
  refine HT.out.mono ?_
  rintro e w0 ⟨rfl, hw⟩
  obtain rfl := hw.symm
  clear HT
  go_wp2_with fail
  go_ret2
  exact ⟨rfl, HR.out, HO.out⟩
set_option maxHeartbeats 1000000 in
theorem rtick_soonS (b : Nat) (me ot st hd sd nw now : Int) (w : World) (h : R6 w b me ot st hd sd nw) (ht : tf nw now = 0) (hh0 : 0 ≤ hd) (hh1 : hd ≤ nw) (hs0 : 0 ≤ sd) (hs1 : sd ≤ nw) (hs : st = 1) (hq : now - sd < 10) :
    Calls Tryd.prog 10 #[.pointer (some ⟨b, 0, none⟩), .int .i64 now] w fun e w' => e = .returned (.tuple #[.slice none 0 0, .int .i64 0]) ∧ R6 w' b me ot 1 hd sd now ∧ Only [b] w w' := by
  obtain ⟨j1, j2, j3⟩ := tf_zero ht
  have HT := hidden (time_calls b nw now w h.cells.2.2.2.2.2)
  rw [ht] at HT
  clear ht
  subst hs
  have t10 : decide (now - sd < 10) = true := decide_eq_true hq
  have fz0 := (h).free 5
  obtain ⟨x00, x01, x02, x03, x04, x05⟩ := (h).cells
  obtain ⟨y0, y1, y2, y3, y4, y5⟩ := ((h).set5 now).cells
  have HR : Hid (R6 ((w).setCell ⟨b, 5, none⟩ (.int .i64 now)) b me ot 1 hd sd now) := (h).set5 now
  have HO : Hid (Only [b] w ((w).setCell ⟨b, 5, none⟩ (.int .i64 now))) := ((Only.refl [b] w)).setCell (by simp) _
  clear h
  go_enter Tryd.func10, Tryd.ntmps10
  go_wp2_with fail
  refine HT.out.mono ?_
  rintro e w0 ⟨rfl, hw⟩
  obtain rfl := hw.symm
  clear HT
  go_wp2_with fail
  go_ret2
  exact ⟨rfl, HR.out, HO.out⟩
set_option maxHeartbeats 1000000 in
theorem rtick_saysW (b : Nat) (me ot st hd sd nw now : Int) (w : World) (h : R6 w b me ot st hd sd nw) (ht : tf nw now = 0) (hh0 : 0 ≤ hd) (hh1 : hd ≤ nw) (hs0 : 0 ≤ sd) (hs1 : sd ≤ nw) (hs : st = 2) (hr : now - hd < 30) (hq : 10 ≤ now - sd) :
    Calls Tryd.prog 10 #[.pointer (some ⟨b, 0, none⟩), .int .i64 now] w fun e w' => ∃ g, e = .returned (.tuple #[.slice (some ⟨g, 0, none⟩) 3 3, .int .i64 0]) ∧ R6 w' b me ot 2 hd now now ∧ Msg w' g 3 me ot ∧ Only [b] w w' := by
  obtain ⟨j1, j2, j3⟩ := tf_zero ht
  have HT := hidden (time_calls b nw now w h.cells.2.2.2.2.2)
  rw [ht] at HT
  clear ht
  subst hs
  have t30 : decide (30 ≤ now - hd) = false := decide_eq_false (by omega)
  have t10 : decide (now - sd < 10) = false := decide_eq_false (by omega)
  have fz0 := (h).free 5
  obtain ⟨x00, x01, x02, x03, x04, x05⟩ := (h).cells
  have fz1 := ((h).set5 now).free 4
  obtain ⟨x10, x11, x12, x13, x14, x15⟩ := ((h).set5 now).cells
  obtain ⟨y0, y1, y2, y3, y4, y5⟩ := (((h).set5 now).set4 now).cells
  have HR : Hid (R6 (((w).setCell ⟨b, 5, none⟩ (.int .i64 now)).setCell ⟨b, 4, none⟩ (.int .i64 now)) b me ot 2 hd now now) := ((h).set5 now).set4 now
  have HO : Hid (Only [b] w (((w).setCell ⟨b, 5, none⟩ (.int .i64 now)).setCell ⟨b, 4, none⟩ (.int .i64 now))) := (((Only.refl [b] w)).setCell (by simp) _).setCell (by simp) _
  clear h
  go_enter Tryd.func10, Tryd.ntmps10
  go_wp2_with fail
  refine HT.out.mono ?_
  rintro e w0 ⟨rfl, hw⟩
  obtain rfl := hw.symm
  clear HT
  go_wp2_with fail
  go_region
  go_wp2_with fail
  go_ret2
  exact ⟨_, rfl, HR.out.below (((Below.refl _ _).alloc (Nat.le_refl _) _).drew), msg_newd (by simp [World.setCell]), (HO.out.alloc _).drew⟩
set_option maxHeartbeats 1000000 in
theorem rtick_saysS (b : Nat) (me ot st hd sd nw now : Int) (w : World) (h : R6 w b me ot st hd sd nw) (ht : tf nw now = 0) (hh0 : 0 ≤ hd) (hh1 : hd ≤ nw) (hs0 : 0 ≤ sd) (hs1 : sd ≤ nw) (hs : st = 1) (hq : 10 ≤ now - sd) :
    Calls Tryd.prog 10 #[.pointer (some ⟨b, 0, none⟩), .int .i64 now] w fun e w' => ∃ g, e = .returned (.tuple #[.slice (some ⟨g, 0, none⟩) 3 3, .int .i64 0]) ∧ R6 w' b me ot 1 hd now now ∧ Msg w' g 1 me 0 ∧ Only [b] w w' := by
  obtain ⟨j1, j2, j3⟩ := tf_zero ht
  have HT := hidden (time_calls b nw now w h.cells.2.2.2.2.2)
  rw [ht] at HT
  clear ht
  subst hs
  have t10 : decide (now - sd < 10) = false := decide_eq_false (by omega)
  have fz0 := (h).free 5
  obtain ⟨x00, x01, x02, x03, x04, x05⟩ := (h).cells
  have fz1 := ((h).set5 now).free 4
  obtain ⟨x10, x11, x12, x13, x14, x15⟩ := ((h).set5 now).cells
  obtain ⟨y0, y1, y2, y3, y4, y5⟩ := (((h).set5 now).set4 now).cells
  have HR : Hid (R6 (((w).setCell ⟨b, 5, none⟩ (.int .i64 now)).setCell ⟨b, 4, none⟩ (.int .i64 now)) b me ot 1 hd now now) := ((h).set5 now).set4 now
  have HO : Hid (Only [b] w (((w).setCell ⟨b, 5, none⟩ (.int .i64 now)).setCell ⟨b, 4, none⟩ (.int .i64 now))) := (((Only.refl [b] w)).setCell (by simp) _).setCell (by simp) _
  clear h
  go_enter Tryd.func10, Tryd.ntmps10
  go_wp2_with fail
  refine HT.out.mono ?_
  rintro e w0 ⟨rfl, hw⟩
  obtain rfl := hw.symm
  clear HT
  go_wp2_with fail
  go_ret2
  exact ⟨_, rfl, HR.out.below ((Below.refl _ _).alloc (Nat.le_refl _) _), msg_new (by simp [World.setCell]), HO.out.alloc _⟩
/-- Open, whatever is given -/
theorem ropen_calls (b : Nat) (s : Lk) (now : Int) (w : World) (h : RAt w b s) (hI : Inv s) :
    Calls Tryd.prog 6 #[.pointer (some ⟨b, 0, none⟩), .int .i64 now] w fun e w' => ∃ v, e = .returned (.tuple #[v, .int .i64 (oF s now : Int)]) ∧ RAt w' b (oR s now).1 ∧ Out w' v (oR s now).2 ∧ Only [b] w w' := by
  by_cases ht : tf s.nw now = 0
  case neg =>
    have e : oF s now = tf s.nw now := by unfold oF; rw [if_pos ht]
    have e2 : oR s now = (s, []) := by unfold oR; rw [if_neg (by rw [e]; exact ht)]
    rw [e, e2]
    rcases tf_cases s.nw now with q | q | q
    · exact absurd q ht
    · rw [q]
      refine (ropen_time1 b s.nw now w h.cells.2.2.2.2.2 q).mono ?_
      rintro e w' ⟨rfl, rfl⟩
      exact ⟨_, rfl, h, Out.nil0 _, Only.refl _ _⟩
    · rw [q]
      refine (ropen_time6 b s.nw now w h.cells.2.2.2.2.2 q).mono ?_
      rintro e w' ⟨rfl, rfl⟩
      exact ⟨_, rfl, h, Out.nil0 _, Only.refl _ _⟩
  by_cases hs : s.st = 2
  · have e : oF s now = 6 := by unfold oF; rw [if_neg (by simp [ht]), if_pos hs]
    have e2 : oR s now = (s, []) := by unfold oR; rw [if_neg (by rw [e]; omega)]
    rw [e, e2]
    refine (ropen_warm b _ _ _ _ _ _ now w h ht hs).mono ?_
    rintro e w' ⟨rfl, hl, ho⟩
    exact ⟨_, rfl, by unfold RAt; rw [hs]; exact hl, Out.nil0 _, ho⟩
  · have e : oF s now = 0 := by unfold oF; rw [if_neg (by simp [ht]), if_neg hs]
    have e2 : oR s now = opn s now := by unfold oR; rw [if_pos e]
    have h0 := hI.o0 hs
    rw [e, e2]
    refine (ropen_ok b _ _ _ _ _ _ now w h ht hs).mono ?_
    rintro e w' ⟨g, rfl, hl, hm, ho⟩
    refine ⟨_, rfl, hl, ?_, ho⟩
    unfold opn
    rw [h0]
    exact Out.msg hm
/-- Tick, whatever is given -/
theorem rtick_calls (b : Nat) (s : Lk) (now : Int) (w : World) (h : RAt w b s) (hI : Inv s) :
    Calls Tryd.prog 10 #[.pointer (some ⟨b, 0, none⟩), .int .i64 now] w fun e w' => ∃ v, e = .returned (.tuple #[v, .int .i64 (tf s.nw now : Int)]) ∧ RAt w' b (tR s now).1 ∧ Out w' v (tR s now).2 ∧ Only [b] w w' := by
  by_cases ht : tf s.nw now = 0
  case neg =>
    have e2 : tR s now = (s, []) := by unfold tR; rw [if_neg ht]
    rw [e2]
    rcases tf_cases s.nw now with q | q | q
    · exact absurd q ht
    · rw [q]
      refine (rtick_time1 b s.nw now w h.cells.2.2.2.2.2 q).mono ?_
      rintro e w' ⟨rfl, rfl⟩
      exact ⟨_, rfl, h, Out.nil0 _, Only.refl _ _⟩
    · rw [q]
      refine (rtick_time6 b s.nw now w h.cells.2.2.2.2.2 q).mono ?_
      rintro e w' ⟨rfl, rfl⟩
      exact ⟨_, rfl, h, Out.nil0 _, Only.refl _ _⟩
  have e2 : tR s now = tck s now := by unfold tR; rw [if_pos ht]
  rw [e2, ht]
  have x0 := hI.h0; have x1 := hI.h1; have x2 := hI.d0; have x3 := hI.d1; have x4 := hI.s0; have x5 := hI.s1
  by_cases q0 : s.st = 2 ∧ 30 ≤ now - s.hd
  · have e3 : tck s now = (⟨now, s.me, 0, 0, s.hd, s.sd⟩, []) := by unfold tck; rw [if_pos q0]
    rw [e3]
    refine (rtick_cold b _ _ _ _ _ _ now w h ht x0 x1 x2 x3 q0.1 q0.2).mono ?_
    rintro e w' ⟨rfl, hl, ho⟩
    exact ⟨_, rfl, hl, Out.nil0 _, ho⟩
  by_cases q1 : s.st = 0 ∨ now - s.sd < 10
  · have e3 : tck s now = (⟨now, s.me, s.st, s.ot, s.hd, s.sd⟩, []) := by unfold tck; rw [if_neg q0, if_pos q1]
    rw [e3]
    rcases (show s.st = 0 ∨ s.st = 1 ∨ s.st = 2 by omega) with q | q | q
    · refine (rtick_zero b _ _ _ _ _ _ now w h ht x0 x1 x2 x3 q).mono ?_
      rintro e w' ⟨rfl, hl, ho⟩
      exact ⟨_, rfl, by unfold RAt; rw [q]; exact hl, Out.nil0 _, ho⟩
    · refine (rtick_soonS b _ _ _ _ _ _ now w h ht x0 x1 x2 x3 q (by omega)).mono ?_
      rintro e w' ⟨rfl, hl, ho⟩
      exact ⟨_, rfl, by unfold RAt; rw [q]; exact hl, Out.nil0 _, ho⟩
    · refine (rtick_soonW b _ _ _ _ _ _ now w h ht x0 x1 x2 x3 q (by omega) (by omega)).mono ?_
      rintro e w' ⟨rfl, hl, ho⟩
      exact ⟨_, rfl, by unfold RAt; rw [q]; exact hl, Out.nil0 _, ho⟩
  by_cases q2 : s.st = 2
  · have e3 : tck s now = (⟨now, s.me, s.st, s.ot, s.hd, now⟩, [3, s.me, s.ot]) := by unfold tck; rw [if_neg q0, if_neg q1, if_pos q2]
    rw [e3]
    refine (rtick_saysW b _ _ _ _ _ _ now w h ht x0 x1 x2 x3 q2 (by omega) (by omega)).mono ?_
    rintro e w' ⟨g, rfl, hl, hm, ho⟩
    exact ⟨_, rfl, by unfold RAt; rw [q2]; exact hl, Out.msg hm, ho⟩
  · have e3 : tck s now = (⟨now, s.me, s.st, s.ot, s.hd, now⟩, [1, s.me, s.ot]) := by unfold tck; rw [if_neg q0, if_neg q1, if_neg q2]
    have h0 := hI.o0 q2
    rw [e3]
    have q3 : s.st = 1 := by omega
    refine (rtick_saysS b _ _ _ _ _ _ now w h ht x0 x1 x2 x3 q3 (by omega)).mono ?_
    rintro e w' ⟨g, rfl, hl, hm, ho⟩
    exact ⟨_, rfl, by unfold RAt; rw [q3]; exact hl, by rw [h0]; exact Out.msg hm, ho⟩
end Go.Proofs.YtfdbfelcokockaiDoor.RLink
