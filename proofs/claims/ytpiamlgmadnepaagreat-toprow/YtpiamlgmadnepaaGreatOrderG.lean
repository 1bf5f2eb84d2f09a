/-
  What Gone of package order returns, whatever it is given, and what it leaves in memory. Its condition: what is kept is such as it may be.
-/
import Derived.Test.YtpiamlgmadnepaaGreatOrderE
namespace Go.Proofs.YtpiamlgmadnepaaGreat.Order
open Go.ChangeShapes Go.WideShapes Go.ChangeAt Go.RowKit Go.Maps Go.Proofs.YtpiamlgmadnepaaGreat.PM Go.Proofs.YtpiamlgmadnepaaGreat.Mem Go.Proofs.YtpiamlgmadnepaaGreat.Pack Go.Proofs.YtpiamlgmadnepaaGreat.OM
set_option linter.unusedVariables false

set_option maxHeartbeats 1000000 in
set_option maxRecDepth 100000 in
theorem gone_time (b : Nat) (nw y now : Int) (w : World) (h : w.cell? ⟨b, 0, none⟩ = some (.int .i64 nw)) (ht : tf nw now ≠ 0) :
    Calls Tryz.prog 31 #[.pointer (some ⟨b, 0, none⟩), .int .i64 y, .int .i64 now] w fun e w' => e = .returned (errv (tf nw now)) ∧ Below w.heap.size w w' := by
  have HC := hidden (fun w => at_bad nw now w ht)
  generalize tf nw now = f at *
  have hc := cmp_ne f
  have hg := grd_ne f
  have d : decide (f = 0) = false := by simpa using ht
  clear ht
  go_enter Tryz.func31, Tryz.ntmps31
  go_wp2_with fail
  refine (HC.out _).mono ?_
  rintro e w1 ⟨rfl, hb1⟩
  have HB := hidden hb1
  clear hb1
  go_wp2_with fail
  go_ret
  exact ⟨rfl, HB.out.alloc HB.out.size _⟩
set_option maxHeartbeats 1000000 in
set_option maxRecDepth 100000 in
theorem gone_range (b : Nat) (nw y now : Int) (w : World) (h : w.cell? ⟨b, 0, none⟩ = some (.int .i64 nw)) (ht : tf nw now = 0) (hy : y < 0 ∨ 1099511627776 < y) :
    Calls Tryz.prog 31 #[.pointer (some ⟨b, 0, none⟩), .int .i64 y, .int .i64 now] w fun e w' => e = .returned (errv 1) ∧ Below w.heap.size w w' := by
  have HC := hidden (fun w => at_ok nw now w ht)
  have HM := hidden (fun w => mayBe_no y w hy)
  clear ht hy
  go_enter Tryz.func31, Tryz.ntmps31
  go_wp2_with fail
  refine (HC.out _).mono ?_
  rintro e w1 ⟨rfl, hb1⟩
  have HB := hidden hb1
  clear hb1
  go_wp2_with fail
  refine (HM.out _).mono ?_
  rintro e w2 ⟨rfl, rfl⟩
  go_wp2_with fail
  go_ret
  exact ⟨rfl, HB.out.alloc HB.out.size _⟩
set_option maxHeartbeats 1000000 in
set_option maxRecDepth 100000 in
theorem gone_state (b mb : Nat) (wt nw y now : Int) (M : Its) (w : World) (h : OrderAt w b mb wt nw (-1) M) (ht : tf nw now = 0) (h0 : 0 ≤ y) (h1 : y ≤ 1099511627776) :
    Calls Tryz.prog 31 #[.pointer (some ⟨b, 0, none⟩), .int .i64 y, .int .i64 now] w fun e w' => e = .returned (errv 6) ∧ Below w.heap.size w w' := by
  have HC := hidden (fun w => at_ok nw now w ht)
  have HM := hidden (fun w => mayBe_yes y w h0 h1)
  have HO := hidden h
  have c0 := h.cells.1
  clear ht h
  go_enter Tryz.func31, Tryz.ntmps31
  go_wp2_with fail
  refine (HC.out _).mono ?_
  rintro e w1 ⟨rfl, hb1⟩
  have HB := hidden hb1
  obtain ⟨k0, k1, k2, k3⟩ := ((HO.out.below hb1).alloc (.cells #[.int .i64 now] 89)).cells
  clear hb1 c0
  go_wp2_with fail
  refine (HM.out _).mono ?_
  rintro e w2 ⟨rfl, rfl⟩
  go_wp2_with fail
  go_ret
  exact ⟨rfl, HB.out.alloc HB.out.size _⟩
set_option maxHeartbeats 2000000 in
set_option maxRecDepth 100000 in
theorem gone_far (b mb : Nat) (wt nw nx y now : Int) (M : Its) (w : World) (h : OrderAt w b mb wt nw nx M) (hI : OM.Inv nw nx M) (ht : tf nw now = 0) (h0 : 0 ≤ y) (h1 : y ≤ 1099511627776) (hn : nx ≠ -1) (hr : far nx y = true) :
    Calls Tryz.prog 31 #[.pointer (some ⟨b, 0, none⟩), .int .i64 y, .int .i64 now] w fun e w' => e = .returned .nilIface ∧ OrderAt w' b mb wt now nx M ∧ Only [b, mb] w w' := by
  have HC := hidden (fun w => at_ok nw now w ht)
  have HM := hidden (fun w => mayBe_yes y w h0 h1)
  have hT := fun w h => isTooFar_calls b nx y w h hI.x1 hI.x2 h0 h1
  rw [hr] at hT
  have HT := hidden hT
  have HO := hidden h
  have c0 := h.cells.1
  have d1 : (nx == -1) = false := by simpa using hn
  have hlt := h.lt.1
  clear ht h hT hI hr hn
  go_enter Tryz.func31, Tryz.ntmps31
  go_wp2_with fail
  refine (HC.out _).mono ?_
  rintro e w1 ⟨rfl, hb1⟩
  have HB := hidden hb1
  have hO1 := HO.out.below hb1
  have hlw : b < w1.heap.size := hO1.lt.1
  obtain ⟨k0, k1, k2, k3⟩ := (hO1.alloc (.cells #[.int .i64 now] 89)).cells
  have f0 := freeb (hO1.alloc (.cells #[.int .i64 now] 89)).box 0
  have HO2 : Hid (OrderAt ((w1.setCell ⟨b, 0, none⟩ (.int .i64 now)).alloc (.cells #[.int .i64 now] 89)) b mb wt now nx M) := (hO1.set 0 _ rfl).alloc _
  have HN2 : Hid (Only [b, mb] w ((w1.setCell ⟨b, 0, none⟩ (.int .i64 now)).alloc (.cells #[.int .i64 now] 89))) := ((Only.of_below HB.out _).setCell (by simp) _).alloc _
  clear hb1 c0 hO1
  go_wp2_with fail
  refine (HM.out _).mono ?_
  rintro e w2 ⟨rfl, rfl⟩
  go_wp2_with fail
  refine (HT.out _ (by exact HO2.out.cells.2.2.1)).mono ?_
  rintro e w4 ⟨rfl, rfl⟩
  go_wp2_with fail
  go_ret
  exact ⟨rfl, HO2.out, HN2.out⟩
/-- what Gone leaves of a number that may be -/
def GO (w w' : World) (b mb : Nat) (wt now nx y : Int) (kv : Bool) (M : Its) : Prop := OrderAt w' b mb wt now nx (if kv then M ++ [gone y now] else M) ∧ Only [b, mb] w w'
set_option maxHeartbeats 2000000 in
set_option maxRecDepth 100000 in
theorem gone_ok (b mb : Nat) (wt nw nx y now : Int) (M : Its) (w : World) (h : OrderAt w b mb wt nw nx M) (hI : OM.Inv nw nx M) (ht : tf nw now = 0) (h0 : 0 ≤ y) (h1 : y ≤ 1099511627776) (hn : nx ≠ -1) (hr : far nx y = false) :
    Calls Tryz.prog 31 #[.pointer (some ⟨b, 0, none⟩), .int .i64 y, .int .i64 now] w fun e w' => e = .returned .nilIface ∧ GO w w' b mb wt now nx y (kx nx y M) M := by
  have HC := hidden (fun w => at_ok nw now w ht)
  have HM := hidden (fun w => mayBe_yes y w h0 h1)
  have hT := fun w h => isTooFar_calls b nx y w h hI.x1 hI.x2 h0 h1
  rw [hr] at hT
  have HT := hidden hT
  have HO := hidden h
  have c0 := h.cells.1
  have d1 : (nx == -1) = false := by simpa using hn
  have hlt := h.lt.1
  have hl : M.length ≤ 1000 := by have := hI.len; omega
  have hwf := wf_of (y := y) (by omega) (by omega)
  have HK : Hid (∀ W, OrderAt W b mb wt now nx M → Calls Tryz.prog 71 #[.pointer (some ⟨b, 0, none⟩), .agg #[.int .i64 y, .bool true, .int .i64 0, .int .i64 0, .int .i64 0, .int .i64 0, .bool false, .slice none 0 0], .int .i64 now] W fun e w' => e = .returned (.bool (kx nx y M)) ∧ Hid (OrderAt w' b mb wt now nx (if kx nx y M then M ++ [gone y now] else M) ∧ Only [mb] W w')) :=
    hidden (fun W hW => (keep_calls b mb wt now nx now y true 0 0 0 0 false none 0 0 [] M W hW hl hwf (body_z W)).mono (fun e w' ⟨h1, h2⟩ => ⟨h1, h2⟩))
  generalize kx nx y M = kv at *
  clear ht h hT hI hr hn
  go_enter Tryz.func31, Tryz.ntmps31
  go_wp2_with fail
  refine (HC.out _).mono ?_
  rintro e w1 ⟨rfl, hb1⟩
  have HB := hidden hb1
  have hO1 := HO.out.below hb1
  have hlw : b < w1.heap.size := hO1.lt.1
  obtain ⟨k0, k1, k2, k3⟩ := (hO1.alloc (.cells #[.int .i64 now] 89)).cells
  have f0 := freeb (hO1.alloc (.cells #[.int .i64 now] 89)).box 0
  have HO2 : Hid (OrderAt ((w1.setCell ⟨b, 0, none⟩ (.int .i64 now)).alloc (.cells #[.int .i64 now] 89)) b mb wt now nx M) := (hO1.set 0 _ rfl).alloc _
  have HN2 : Hid (Only [b, mb] w ((w1.setCell ⟨b, 0, none⟩ (.int .i64 now)).alloc (.cells #[.int .i64 now] 89))) := ((Only.of_below HB.out _).setCell (by simp) _).alloc _
  clear hb1 c0 hO1
  go_wp2_with fail
  refine (HM.out _).mono ?_
  rintro e w2 ⟨rfl, rfl⟩
  go_wp2_with fail
  refine (HT.out _ (by exact HO2.out.cells.2.2.1)).mono ?_
  rintro e w4 ⟨rfl, rfl⟩
  go_wp2_with fail
  refine (gone_calls y _).mono ?_
  rintro e w5 ⟨rfl, hb5⟩
  have HO5 := hidden (HO2.out.below hb5)
  have HN5 := hidden (HN2.out.trans (Only.of_below hb5 _))
  clear hb5
  go_wp2_with fail
  refine (HK.out _ HO5.out).mono ?_
  rintro e w6 ⟨rfl, H6⟩
  go_wp2_with fail
  go_ret
  exact ⟨rfl, H6.out.1, HN5.out.trans (H6.out.2.mono (by simp))⟩
/-- Gone, whatever it is given -/
theorem goneM_calls (b mb : Nat) (wt nw nx y now : Int) (M : Its) (w : World) (h : OrderAt w b mb wt nw nx M) (hI : OM.Inv nw nx M) :
    Calls Tryz.prog 31 #[.pointer (some ⟨b, 0, none⟩), .int .i64 y, .int .i64 now] w fun e w' => e = .returned (errv (gf nw nx y now)) ∧ OrderAt w' b mb wt (gW nw nx y now) nx (gM nw nx y now M) ∧ Only [b, mb] w w' := by
  have same : ∀ w', gf nw nx y now ≠ 0 → Below w.heap.size w w' → OrderAt w' b mb wt (gW nw nx y now) nx (gM nw nx y now M) ∧ Only [b, mb] w w' := by
    intro w' hx hb
    unfold gW gM gx
    simp only [hx, decide_false, Bool.false_and, if_false]
    exact ⟨h.below hb, Only.of_below hb _⟩
  by_cases ht : tf nw now = 0
  case neg =>
    have e1 : gf nw nx y now = tf nw now := by unfold gf; rw [if_pos ht]
    refine (gone_time b nw y now w h.cells.1 ht).mono ?_
    rintro e w' ⟨rfl, hb⟩
    exact ⟨by rw [e1], same w' (by rw [e1]; exact ht) hb⟩
  by_cases hy : y < 0 ∨ 1099511627776 < y
  · have e1 : gf nw nx y now = 1 := by unfold gf; rw [if_neg (by omega), if_pos hy]
    refine (gone_range b nw y now w h.cells.1 ht hy).mono ?_
    rintro e w' ⟨rfl, hb⟩
    exact ⟨by rw [e1], same w' (by omega) hb⟩
  by_cases hn : nx = -1
  · have e1 : gf nw nx y now = 6 := by unfold gf; rw [if_neg (by omega), if_neg hy, if_pos hn]
    have h' := h
    rw [hn] at h'
    refine (gone_state b mb wt nw y now M w h' ht (by omega) (by omega)).mono ?_
    rintro e w' ⟨rfl, hb⟩
    exact ⟨by rw [e1], same w' (by omega) hb⟩
  have e1 : gf nw nx y now = 0 := by unfold gf; rw [if_neg (by omega), if_neg hy, if_neg hn]
  by_cases hr : far nx y = true
  · refine (gone_far b mb wt nw nx y now M w h hI ht (by omega) (by omega) hn hr).mono ?_
    rintro e w' ⟨rfl, hO, ho⟩
    refine ⟨by rw [e1]; rfl, ?_, ho⟩
    unfold gW gM gx
    simp only [e1, hr, if_true, Bool.not_true, Bool.false_and, Bool.and_false]
    exact hO
  · have hr' : far nx y = false := by simpa using hr
    refine (gone_ok b mb wt nw nx y now M w h hI ht (by omega) (by omega) hn hr').mono ?_
    rintro e w' ⟨rfl, hO, ho⟩
    refine ⟨by rw [e1]; rfl, ?_, ho⟩
    unfold gW gM gx
    simp only [e1, hr', if_true, decide_true, Bool.not_false, Bool.true_and]
    exact hO
end Go.Proofs.YtpiamlgmadnepaaGreat.Order

