/-
  What Push and Pop of package order return, whatever they are given, and what they leave in memory. Their condition: what is kept is such as it may be.
-/
import Derived.Test.YtpiamlgmadnepaaGreatOrderD
namespace Go.Proofs.YtpiamlgmadnepaaGreat.Order
open Go.ChangeShapes Go.WideShapes Go.ChangeAt Go.RowKit Go.Maps Go.Proofs.YtpiamlgmadnepaaGreat.PM Go.Proofs.YtpiamlgmadnepaaGreat.Mem Go.Proofs.YtpiamlgmadnepaaGreat.Pack Go.Proofs.YtpiamlgmadnepaaGreat.OM
set_option linter.unusedVariables false

theorem cell_order {w : World} {b mb : Nat} {wt nw nx : Int} {M : Its} (h : OrderAt w b mb wt nw nx M) {g o : Nat} {c : Int} (hc : w.cell? ⟨g, o, none⟩ = some (.int .u8 c)) : g ∉ [b, mb] := by
  obtain ⟨h1, ⟨D, h2, _⟩, _⟩ := h
  obtain ⟨es, cl, h3⟩ := map_block h2
  intro hg
  simp only [List.mem_cons, List.not_mem_nil, or_false] at hg
  rcases hg with rfl | rfl
  · simp only [World.cell?, h1] at hc
    match o, hc with
    | 0, hc => simp at hc
    | 1, hc => simp at hc
    | 2, hc => simp at hc
    | 3, hc => simp at hc
    | o + 4, hc => simp at hc
  · simp [World.cell?, h3] at hc
/-- bytes that came in stay as they are -/
theorem arg_order {w W : World} {b mb : Nat} {wt nw nx : Int} {M : Its} (h : OrderAt w b mb wt nw nx M) {a : Option Addr} {m : Nat} {L : List Nat} (hA : Arg w a m L) (ho : Only [b, mb] w W) : Arg W a m L := by
  refine ⟨⟨hA.1.1, fun j hj => ?_⟩, hA.2⟩
  obtain ⟨g, o, e, hc⟩ := hA.1.2 j hj
  refine ⟨g, o, e, ?_⟩
  have hk := cell_order h hc
  have hlt := World.block_lt_of_cell? w ⟨g, o + j, none⟩ hc
  have := ho.2.2.2.2 g hlt hk
  simp only [World.cell?] at hc ⊢
  rw [this]
  exact hc

set_option maxHeartbeats 1000000 in
set_option maxRecDepth 100000 in
theorem push_time (b : Nat) (nw y now s t l q : Int) (st : Bool) (a : Option Addr) (m cap : Nat) (w : World) (h : w.cell? ⟨b, 0, none⟩ = some (.int .i64 nw)) (ht : tf nw now ≠ 0) :
    Calls Tryz.prog 28 #[.pointer (some ⟨b, 0, none⟩), .int .i64 y, .agg #[.int .i64 s, .int .i64 t, .int .i64 l, .int .i64 q, .bool st, .slice a m cap], .int .i64 now] w fun e w' => e = .returned (.tuple #[.bool false, errv (tf nw now)]) ∧ Below w.heap.size w w' := by
  have HC := hidden (fun w => at_bad nw now w ht)
  generalize tf nw now = f at *
  have hc := cmp_ne f
  have hg := grd_ne f
  have d : decide (f = 0) = false := by simpa using ht
  have c0 := fun O => cell_alloc h O
  clear ht h
  go_enter Tryz.func28, Tryz.ntmps28
  go_wp2_with fail
  refine (HC.out _).mono ?_
  rintro e w1 ⟨rfl, hb1⟩
  have HB := hidden (below_old hb1)
  clear hb1
  go_wp2_with fail
  go_ret2
  exact ⟨rfl, HB.out.alloc HB.out.size _⟩
set_option maxHeartbeats 1000000 in
set_option maxRecDepth 100000 in
theorem push_range (b : Nat) (nw y now s t l q : Int) (st : Bool) (a : Option Addr) (m cap : Nat) (w : World) (h : w.cell? ⟨b, 0, none⟩ = some (.int .i64 nw)) (ht : tf nw now = 0) (hy : y < 0 ∨ 1099511627776 < y) :
    Calls Tryz.prog 28 #[.pointer (some ⟨b, 0, none⟩), .int .i64 y, .agg #[.int .i64 s, .int .i64 t, .int .i64 l, .int .i64 q, .bool st, .slice a m cap], .int .i64 now] w fun e w' => e = .returned (.tuple #[.bool false, errv 1]) ∧ Below w.heap.size w w' := by
  have HC := hidden (fun w => at_ok nw now w ht)
  have HM := hidden (fun w => mayBe_no y w hy)
  have c0 := fun O => cell_alloc h O
  clear ht h hy
  go_enter Tryz.func28, Tryz.ntmps28
  go_wp2_with fail
  refine (HC.out _).mono ?_
  rintro e w1 ⟨rfl, hb1⟩
  have HB := hidden (below_old hb1)
  clear hb1
  go_wp2_with fail
  refine (HM.out _).mono ?_
  rintro e w2 ⟨rfl, rfl⟩
  go_wp2_with fail
  go_ret2
  exact ⟨rfl, HB.out.alloc HB.out.size _⟩
set_option maxHeartbeats 1000000 in
set_option maxRecDepth 100000 in
theorem push_bad (b : Nat) (nw y now s t l q : Int) (st : Bool) (a : Option Addr) (m cap : Nat) (w : World) (h : w.cell? ⟨b, 0, none⟩ = some (.int .i64 nw)) (ht : tf nw now = 0) (h0 : 0 ≤ y) (h1 : y ≤ 1099511627776) (hf : fault s t l q m ≠ 0) :
    Calls Tryz.prog 28 #[.pointer (some ⟨b, 0, none⟩), .int .i64 y, .agg #[.int .i64 s, .int .i64 t, .int .i64 l, .int .i64 q, .bool st, .slice a m cap], .int .i64 now] w fun e w' => e = .returned (.tuple #[.bool false, errv (fault s t l q m)]) ∧ Below w.heap.size w w' := by
  have HC := hidden (fun w => at_ok nw now w ht)
  have HM := hidden (fun w => mayBe_yes y w h0 h1)
  have HP := hidden (fun w => check_calls s t l q st a m cap w)
  generalize fault s t l q m = f at *
  have hc := cmp_ne f
  have hg := grd_ne f
  have d : decide (f = 0) = false := by simpa using hf
  have c0 := fun O => cell_alloc h O
  clear ht h hf
  go_enter Tryz.func28, Tryz.ntmps28
  go_wp2_with fail
  refine (HC.out _).mono ?_
  rintro e w1 ⟨rfl, hb1⟩
  have HX1 := hidden ((Box.new w s t l q st (.slice a m cap)).below hb1 (by simp))
  have HB := hidden (below_old hb1)
  obtain ⟨x0, x1, x2, x3, x4, x5⟩ := (HX1.out.alloc (.cells #[.int .i64 now] 89)).cells
  clear hb1
  go_wp2_with fail
  refine (HM.out _).mono ?_
  rintro e w2 ⟨rfl, rfl⟩
  go_wp2_with fail
  refine (HP.out _).mono ?_
  rintro e w3 ⟨rfl, hb3⟩
  have HB3 := hidden ((HB.out.alloc HB.out.size _).trans (hb3.mono (by have := HB.out.size; simp; omega)))
  clear hb3
  go_wp2_with fail
  go_ret2
  exact ⟨rfl, HB3.out⟩

set_option maxHeartbeats 1000000 in
set_option maxRecDepth 100000 in
theorem push_full (b mb : Nat) (wt nw nx y now s t l q : Int) (st : Bool) (a : Option Addr) (m cap : Nat) (M : Its) (w : World) (h : OrderAt w b mb wt nw nx M) (hI : OM.Inv nw nx M) (ht : tf nw now = 0) (h0 : 0 ≤ y) (h1 : y ≤ 1099511627776) (hf : fault s t l q m = 0) (hr : far nx y = true) :
    Calls Tryz.prog 28 #[.pointer (some ⟨b, 0, none⟩), .int .i64 y, .agg #[.int .i64 s, .int .i64 t, .int .i64 l, .int .i64 q, .bool st, .slice a m cap], .int .i64 now] w fun e w' => e = .returned (.tuple #[.bool false, errv 4]) ∧ Below w.heap.size w w' := by
  have HC := hidden (fun w => at_ok nw now w ht)
  have HM := hidden (fun w => mayBe_yes y w h0 h1)
  have hP := fun w => check_calls s t l q st a m cap w
  rw [hf, errv_zero] at hP
  have HP := hidden hP
  have hT := fun w h => isTooFar_calls b nx y w h hI.x1 hI.x2 h0 h1
  rw [hr] at hT
  have HT := hidden hT
  have HO := hidden h
  have c0 := fun O => cell_alloc h.cells.1 O
  clear ht h hf hP hT hI hr
  go_enter Tryz.func28, Tryz.ntmps28
  go_wp2_with fail
  refine (HC.out _).mono ?_
  rintro e w1 ⟨rfl, hb1⟩
  have HX1 := hidden ((Box.new w s t l q st (.slice a m cap)).below hb1 (by simp))
  have HB := hidden (below_old hb1)
  obtain ⟨x0, x1, x2, x3, x4, x5⟩ := (HX1.out.alloc (.cells #[.int .i64 now] 89)).cells
  clear hb1
  go_wp2_with fail
  refine (HM.out _).mono ?_
  rintro e w2 ⟨rfl, rfl⟩
  go_wp2_with fail
  refine (HP.out _).mono ?_
  rintro e w3 ⟨rfl, hb3⟩
  have HB3 := hidden ((HB.out.alloc HB.out.size _).trans (hb3.mono (by have := HB.out.size; simp; omega)))
  clear hb3
  go_wp2_with fail
  refine (HT.out _ (HO.out.below HB3.out).cells.2.2.1).mono ?_
  rintro e w4 ⟨rfl, rfl⟩
  go_wp2_with fail
  go_ret2
  exact ⟨rfl, HB3.out⟩

/-- what Push leaves of a packet that is right -/
def PO (w w' : World) (b mb : Nat) (wt now fv y : Int) (kv : Bool) (M : Its) (s t l q : Int) (st : Bool) (L : List Nat) : Prop :=
  ∃ bv, OrderAt w' b mb wt now fv (if kv then M ++ [⟨y, false, ⟨s, t, l, q, st, L, bv⟩, now⟩] else M) ∧ Only [b, mb] w w'
set_option maxHeartbeats 4000000 in
set_option maxRecDepth 100000 in
theorem push_ok (b mb : Nat) (wt nw nx y now s t l q : Int) (st : Bool) (a : Option Addr) (m cap : Nat) (L : List Nat) (M : Its) (w : World) (h : OrderAt w b mb wt nw nx M) (hI : OM.Inv nw nx M) (hA : Arg w a m L) (hN : a = none → m = 0 ∧ cap = 0) (ht : tf nw now = 0) (h0 : 0 ≤ y) (h1 : y ≤ 1099511627776) (hf : fault s t l q m = 0) (hr : far nx y = false) :
    Calls Tryz.prog 28 #[.pointer (some ⟨b, 0, none⟩), .int .i64 y, .agg #[.int .i64 s, .int .i64 t, .int .i64 l, .int .i64 q, .bool st, .slice a m cap], .int .i64 now] w fun e w' => e = .returned (.tuple #[.bool (kx (fx nx y) y M), .nilIface]) ∧ PO w w' b mb wt now (fx nx y) y (kx (fx nx y) y M) M s t l q st L := by
  have hm : m ≤ 1000 := by obtain ⟨_, _, _, _, _, _, _, _, _, _, _, _, hm⟩ := fault_zero hf; exact hm
  have HC := hidden (fun w => at_ok nw now w ht)
  have HM := hidden (fun w => mayBe_yes y w h0 h1)
  have hP := fun w => check_calls s t l q st a m cap w
  rw [hf, errv_zero] at hP
  have HP := hidden hP
  have hT := fun w h => isTooFar_calls b nx y w h hI.x1 hI.x2 h0 h1
  rw [hr] at hT
  have HT := hidden hT
  have HO := hidden h
  have c0 := fun O => cell_alloc h.cells.1 O
  have hl : M.length ≤ 1000 := by have := hI.len; omega
  have hwf := wf_of (y := y) (by omega) (by omega)
  have HK : Hid (∀ W a' c', OrderAt W b mb wt now (fx nx y) M → W.ownsRow 0 5 1 (.slice a' m c') m (cellsOf L) → Calls Tryz.prog 71 #[.pointer (some ⟨b, 0, none⟩), .agg #[.int .i64 y, .bool false, .int .i64 s, .int .i64 t, .int .i64 l, .int .i64 q, .bool st, .slice a' m c'], .int .i64 now] W fun e w' => e = .returned (.bool (kx (fx nx y) y M)) ∧ OrderAt w' b mb wt now (fx nx y) (if kx (fx nx y) y M then M ++ [⟨y, false, ⟨s, t, l, q, st, L, .slice a' m c'⟩, now⟩] else M) ∧ Only [mb] W w') :=
    hidden (fun W a' c' hW ho => keep_calls b mb wt now (fx nx y) now y false s t l q st a' m c' L M W hW hl hwf ⟨a', m, c', rfl, ho, hA.1.1, hm⟩)
  have HA := hidden hA
  have HN := hidden hN
  have HAp := hidden (fun W hW => apart_calls s t l q st a m cap L W hW hN hm)
  have hlt := h.lt
  have hx1 := hI.x1
  have hfx : fx nx y = if nx = -1 then y else nx := rfl
  have HFx := hidden hfx
  generalize kx (fx nx y) y M = kv at *
  generalize fx nx y = fv at *
  clear ht h hf hP hT hI hr hA hN hfx
  obtain ⟨hlt1, hlt2⟩ := hlt
  go_enter Tryz.func28, Tryz.ntmps28
  go_wp2_with fail
  refine (HC.out _).mono ?_
  rintro e w1 ⟨rfl, hb1⟩
  have HX1 := hidden ((Box.new w s t l q st (.slice a m cap)).below hb1 (by simp))
  have HB := hidden (below_old hb1)
  obtain ⟨x0, x1, x2, x3, x4, x5⟩ := (HX1.out.alloc (.cells #[.int .i64 now] 89)).cells
  clear hb1
  go_wp2_with fail
  refine (HM.out _).mono ?_
  rintro e w2 ⟨rfl, rfl⟩
  go_wp2_with fail
  refine (HP.out _).mono ?_
  rintro e w3 ⟨rfl, hb3⟩
  have HB3 := hidden ((HB.out.alloc HB.out.size _).trans (hb3.mono (by have := HB.out.size; simp; omega)))
  have HX3 := hidden ((HX1.out.alloc (.cells #[.int .i64 now] 89)).below hb3 (by have := HX1.out.lt; simp; omega))
  have hck : w3.cell? ⟨w1.heap.size, 0, none⟩ = some (.int .i64 now) := by
    have hh : w3.heap[w1.heap.size]? = some (.cells #[.int .i64 now] 89 (0, 0)) := (hb3.block _ (by simp)).trans (heap_alloc_new w1 _)
    simp [World.cell?, hh]
  have hbw1 : w.heap.size < w1.heap.size := HX1.out.lt
  clear hb3 x0 x1 x2 x3 x4 x5 HX1 HB
  go_wp2_with fail
  refine (HT.out _ (HO.out.below HB3.out).cells.2.2.1).mono ?_
  rintro e w4 ⟨rfl, rfl⟩
  obtain ⟨k0, k1, k2, k3⟩ := (HO.out.below HB3.out).cells
  have f0 := freeb (HO.out.below HB3.out).box 0
  have f2 := freeb (HO.out.below HB3.out).box 2
  obtain ⟨x0, x1, x2, x3, x4, x5⟩ := HX3.out.cells
  have HS : Hid (∀ W, Only [b] w4 W → OrderAt W b mb wt now fv M → Only [b, mb] w W ∧ Arg W a m L ∧ Box W w.heap.size s t l q st (.slice a m cap)) := by
    refine hidden (fun W hon hO => ?_)
    have ho : Only [b, mb] w W := (Only.of_below HB3.out _).trans (hon.mono (by simp))
    exact ⟨ho, arg_order HO.out HA.out ho, hon.block HX3.out (by simp; omega)⟩
  have hbne : b ≠ w.heap.size := by omega
  by_cases hnx : nx = -1
  · have hfv : fv = y := by have := HFx.out; rw [if_pos hnx] at this; exact this
    subst hnx
    obtain ⟨w5, hw5⟩ : ∃ w5, (w4.setCell ⟨b, 0, none⟩ (.int .i64 now)).setCell ⟨b, 2, none⟩ (.int .i64 y) = w5 := ⟨_, rfl⟩
    have HO5 : Hid (OrderAt w5 b mb wt now fv M) := by rw [← hw5, hfv]; exact ((HO.out.below HB3.out).set 0 (.int .i64 now) rfl).set 2 (.int .i64 y) rfl
    have HQ5 := hidden (HS.out w5 (by rw [← hw5]; exact ((Only.refl _ w4).setCell (by simp) _).setCell (by simp) _) HO5.out)
    have HW5 := hidden hw5
    clear hw5 hfv
    go_wp2_with fail
    rw [HW5.out]
    refine (HAp.out _ HQ5.out.2.1).mono ?_
    rintro e w6 ⟨a', c', rfl, hown, hb6⟩
    have HO6 := hidden (HO5.out.below hb6)
    have HN6 := hidden (HQ5.out.1.trans (Only.of_below hb6 _))
    have HR6 := hidden hown
    clear hb6 hown
    go_wp2_with fail
    refine (HK.out _ a' c' HO6.out HR6.out).mono ?_
    rintro e w7 ⟨rfl, hO7, hN7⟩
    have HO7 := hidden hO7
    have HN7 := hidden hN7
    clear hO7 hN7
    go_wp2_with fail
    go_ret2
    exact ⟨rfl, _, HO7.out, HN6.out.trans (HN7.out.mono (by simp))⟩
  · have hfv : fv = nx := by have := HFx.out; rw [if_neg hnx] at this; exact this
    have d1 : (nx == -1) = false := by simpa using hnx
    obtain ⟨w5, hw5⟩ : ∃ w5, w4.setCell ⟨b, 0, none⟩ (.int .i64 now) = w5 := ⟨_, rfl⟩
    have HO5 : Hid (OrderAt w5 b mb wt now fv M) := by rw [← hw5, hfv]; exact (HO.out.below HB3.out).set 0 (.int .i64 now) rfl
    have HQ5 := hidden (HS.out w5 (by rw [← hw5]; exact (Only.refl _ w4).setCell (by simp) _) HO5.out)
    have HW5 := hidden hw5
    clear hw5 hfv hnx
    go_wp2_with fail
    rw [HW5.out]
    refine (HAp.out _ HQ5.out.2.1).mono ?_
    rintro e w6 ⟨a', c', rfl, hown, hb6⟩
    have HO6 := hidden (HO5.out.below hb6)
    have HN6 := hidden (HQ5.out.1.trans (Only.of_below hb6 _))
    have HR6 := hidden hown
    clear hb6 hown
    go_wp2_with fail
    refine (HK.out _ a' c' HO6.out HR6.out).mono ?_
    rintro e w7 ⟨rfl, hO7, hN7⟩
    have HO7 := hidden hO7
    have HN7 := hidden hN7
    clear hO7 hN7
    go_wp2_with fail
    go_ret2
    exact ⟨rfl, _, HO7.out, HN6.out.trans (HN7.out.mono (by simp))⟩

/-- Push, whatever it is given -/
theorem push_calls (b mb : Nat) (wt nw nx y now s t l q : Int) (st : Bool) (a : Option Addr) (m cap : Nat) (L : List Nat) (M : Its) (w : World) (h : OrderAt w b mb wt nw nx M) (hI : OM.Inv nw nx M) (hA : Arg w a m L) (hN : a = none → m = 0 ∧ cap = 0) :
    Calls Tryz.prog 28 #[.pointer (some ⟨b, 0, none⟩), .int .i64 y, .agg #[.int .i64 s, .int .i64 t, .int .i64 l, .int .i64 q, .bool st, .slice a m cap], .int .i64 now] w fun e w' => e = .returned (.tuple #[.bool (px nw nx y now M (fault s t l q m)), errv (pf nw nx y now (fault s t l q m))]) ∧
      ∃ bv, OrderAt w' b mb wt (pW nw nx y now (fault s t l q m)) (pX nw nx y now (fault s t l q m)) (pM nw nx y now M (fault s t l q m) ⟨s, t, l, q, st, L, bv⟩) ∧ Only [b, mb] w w' := by
  have same : ∀ w', pf nw nx y now (fault s t l q m) ≠ 0 → Below w.heap.size w w' → ∃ bv, OrderAt w' b mb wt (pW nw nx y now (fault s t l q m)) (pX nw nx y now (fault s t l q m)) (pM nw nx y now M (fault s t l q m) ⟨s, t, l, q, st, L, bv⟩) ∧ Only [b, mb] w w' := by
    intro w' hx hb
    refine ⟨.nilIface, ?_, Only.of_below hb _⟩
    unfold pW pX pM px
    simp only [hx, decide_false, Bool.false_and, if_false]
    exact h.below hb
  have hpx : pf nw nx y now (fault s t l q m) ≠ 0 → px nw nx y now M (fault s t l q m) = false := by
    intro hx
    simp [px, hx]
  by_cases ht : tf nw now = 0
  case neg =>
    have e1 : pf nw nx y now (fault s t l q m) = tf nw now := by unfold pf; rw [if_pos ht]
    have hn : pf nw nx y now (fault s t l q m) ≠ 0 := by rw [e1]; exact ht
    refine (push_time b nw y now s t l q st a m cap w h.cells.1 ht).mono ?_
    rintro e w' ⟨rfl, hb⟩
    exact ⟨by rw [hpx hn, e1], same w' hn hb⟩
  by_cases hy : y < 0 ∨ 1099511627776 < y
  · have e1 : pf nw nx y now (fault s t l q m) = 1 := by unfold pf; rw [if_neg (by omega), if_pos hy]
    have hn : pf nw nx y now (fault s t l q m) ≠ 0 := by omega
    refine (push_range b nw y now s t l q st a m cap w h.cells.1 ht hy).mono ?_
    rintro e w' ⟨rfl, hb⟩
    exact ⟨by rw [hpx hn, e1], same w' hn hb⟩
  by_cases hc : fault s t l q m = 0
  case neg =>
    have e1 : pf nw nx y now (fault s t l q m) = fault s t l q m := by unfold pf; rw [if_neg (by omega), if_neg hy, if_pos hc]
    have hn : pf nw nx y now (fault s t l q m) ≠ 0 := by omega
    refine (push_bad b nw y now s t l q st a m cap w h.cells.1 ht (by omega) (by omega) hc).mono ?_
    rintro e w' ⟨rfl, hb⟩
    exact ⟨by rw [hpx hn, e1], same w' hn hb⟩
  by_cases hr : far nx y = true
  · have e1 : pf nw nx y now (fault s t l q m) = 4 := by unfold pf; rw [if_neg (by omega), if_neg hy, if_neg (by omega), if_pos hr]
    have hn : pf nw nx y now (fault s t l q m) ≠ 0 := by omega
    refine (push_full b mb wt nw nx y now s t l q st a m cap M w h hI ht (by omega) (by omega) hc hr).mono ?_
    rintro e w' ⟨rfl, hb⟩
    exact ⟨by rw [hpx hn, e1], same w' hn hb⟩
  · have hr' : far nx y = false := by simpa using hr
    have e1 : pf nw nx y now (fault s t l q m) = 0 := pf_mk ht (by omega) (by omega) hc hr'
    refine (push_ok b mb wt nw nx y now s t l q st a m cap L M w h hI hA hN ht (by omega) (by omega) hc hr').mono ?_
    rintro e w' ⟨rfl, bv, hO, ho⟩
    refine ⟨?_, bv, ?_, ho⟩
    · simp [px, e1, errv]
    · unfold pW pX pM px
      simp only [e1, if_true, decide_true, Bool.true_and]
      exact hO

/-- so many are handed out, whatever the time -/
structure Many (wt nw nx now : Int) (M : Its) (K : Nat) : Prop where
  le : K ≤ 200
  yes : tf nw now = 0 → ∃ od, Od wt now M od ∧ Stop M od nx K
  no : tf nw now ≠ 0 → K = 0
theorem many_ex (wt : Int) {nw nx now : Int} {M : Its} (h : OM.Inv nw nx M) : ∃ K, Many wt nw nx now M K := by
  by_cases ht : tf nw now = 0
  · obtain ⟨od, ho⟩ := od_ex wt now M (fun i hi => (h.mem i hi).1)
    obtain ⟨K, hK, hs⟩ := stop_ex h ho
    exact ⟨K, hK, fun _ => ⟨od, ho, hs⟩, fun h => absurd ht h⟩
  · exact ⟨0, by omega, fun h => absurd h ht, fun _ => rfl⟩
def qW (nw now : Int) : Int := if tf nw now = 0 then now else nw
theorem inv_many {wt nw nx now : Int} {M : Its} {K : Nat} (h : OM.Inv nw nx M) (hK : Many wt nw nx now M K) : OM.Inv (qW nw now) (nx + (K : Int)) (rest M (nx + (K : Int))) := by
  unfold qW
  by_cases ht : tf nw now = 0
  · obtain ⟨od, ho, hs⟩ := hK.yes ht
    rw [if_pos ht]
    exact inv_pop h ht ho hs.all
  · have := hK.no ht
    subst this
    rw [if_neg ht]
    simp only [Int.natCast_zero, Int.add_zero]
    rw [rest_all h]
    exact h
/-- Pop, whatever it is given -/
theorem pop_calls (b mb : Nat) (wt nw nx now : Int) (M : Its) (K : Nat) (w : World) (h : OrderAt w b mb wt nw nx M) (hI : OM.Inv nw nx M) (hK : Many wt nw nx now M K) :
    Calls Tryz.prog 32 #[.pointer (some ⟨b, 0, none⟩), .int .i64 now] w fun e w' => ∃ av cv, e = .returned (.tuple #[.slice av K cv, errv (tf nw now)]) ∧ w'.ownsRow w.heap.size 82 8 (.slice av K cv) K (flat c8 (takes M nx K)) ∧ Bodies w' (takes M nx K) ∧ OrderAt w' b mb wt (qW nw now) (nx + (K : Int)) (rest M (nx + (K : Int))) ∧ Only [b, mb] w w' := by
  unfold qW
  by_cases ht : tf nw now = 0
  · obtain ⟨od, ho, hs⟩ := hK.yes ht
    rw [if_pos ht, ht, errv_zero]
    exact pop_ok b mb wt nw nx now od M K w h hI ht ho hs hK.le
  · have := hK.no ht
    subst this
    rw [if_neg ht]
    refine (pop_time b nw now w h.cells.1 ht).mono ?_
    rintro e w' ⟨rfl, hb⟩
    refine ⟨none, 0, rfl, by simpa [takes, flat] using World.ownsRow_nil w' w.heap.size 82 8, fun i hi => by simp [takes] at hi, ?_, Only.of_below hb _⟩
    simp only [Int.natCast_zero, Int.add_zero]
    rw [rest_all hI]
    exact h.below hb
end Go.Proofs.YtpiamlgmadnepaaGreat.Order

