/-
  What the reference's Order's method Push returns, and what it leaves in memory. Its condition: what is kept is such as it may be.
-/
import Derived.Test.YtenjemcehhocoaeDoorROrderA
import Derived.Deep.AppendLies
import Derived.Deep.RegionHeld3
import Derived.Deep.RegionLaw
namespace Go.Proofs.YtenjemcehhocoaeDoor.ROrder
open Go.ChangeShapes Go.WideShapes Go.ChangeAt Go.RowKit Go.Proofs.YtenjemcehhocoaeDoor.PM Go.Proofs.YtenjemcehhocoaeDoor.Mem Go.Proofs.YtenjemcehhocoaeDoor.Pack Go.Proofs.YtenjemcehhocoaeDoor.OM Go.Proofs.YtenjemcehhocoaeDoor.Order
set_option linter.unusedVariables false

set_option maxHeartbeats 1000000 in
set_option maxRecDepth 100000 in
theorem rpush_time (b : Nat) (nw y now s t l q : Int) (st : Bool) (bv : Value) (w : World) (h : w.cell? ⟨b, 1, none⟩ = some (.int .i64 nw)) (ht : tf nw now ≠ 0) :
    Calls Tryd.prog 6 #[.pointer (some ⟨b, 0, none⟩), .int .i64 y, .agg #[.int .i64 s, .int .i64 t, .int .i64 l, .int .i64 q, .bool st, bv], .int .i64 now] w fun e w' => e = .returned (.tuple #[.bool false, .int .i64 (tf nw now : Nat)]) ∧ Below w.heap.size w w' := by
  have HT := hidden (fun w h => time_calls b nw now w h)
  have HL := hidden (fun w => rlong_calls y w)
  generalize decide (0 ≤ y ∧ y ≤ 1099511627776) = lb at *
  generalize tf nw now = f at *
  have d : ((f : Int) == 0) = false := by simp; omega
  have c1 := fun O => cell_alloc h O
  have HC1 := hidden c1
  clear ht h
  go_enter Tryd.func6, Tryd.ntmps6
  go_wp2_with fail
  refine (HT.out _ (HC1.out _)).mono ?_
  rintro e w' ⟨rfl, rfl⟩
  go_wp2_with fail
  refine (HL.out _).mono ?_
  rintro e w' ⟨rfl, rfl⟩
  go_wp2_with fail
  go_ret2
  exact ⟨rfl, (Below.refl _ _).alloc (Nat.le_refl _) _⟩
set_option maxHeartbeats 1000000 in
set_option maxRecDepth 100000 in
theorem rpush_range (b : Nat) (nw y now s t l q : Int) (st : Bool) (bv : Value) (w : World) (h : w.cell? ⟨b, 1, none⟩ = some (.int .i64 nw)) (ht : tf nw now = 0) (hy : y < 0 ∨ 1099511627776 < y) :
    Calls Tryd.prog 6 #[.pointer (some ⟨b, 0, none⟩), .int .i64 y, .agg #[.int .i64 s, .int .i64 t, .int .i64 l, .int .i64 q, .bool st, bv], .int .i64 now] w fun e w' => e = .returned (.tuple #[.bool false, .int .i64 1]) ∧ Below w.heap.size w w' := by
  have hT := fun w h => time_calls b nw now w h
  rw [ht] at hT
  have HT := hidden hT
  have HL := hidden (fun w => RPack.rlong_no y w hy)
  have HC1 := hidden (fun O => cell_alloc h O)
  clear ht h hT hy
  go_enter Tryd.func6, Tryd.ntmps6
  go_wp2_with fail
  refine (HT.out _ (HC1.out _)).mono ?_
  rintro e w' ⟨rfl, rfl⟩
  go_wp2_with fail
  refine (HL.out _).mono ?_
  rintro e w' ⟨rfl, rfl⟩
  go_wp2_with fail
  go_ret2
  exact ⟨rfl, (Below.refl _ _).alloc (Nat.le_refl _) _⟩
set_option maxHeartbeats 1000000 in
set_option maxRecDepth 100000 in
theorem rpush_bad (b : Nat) (nw y now s t l q : Int) (st : Bool) (a : Option Addr) (m cap : Nat) (w : World) (h : w.cell? ⟨b, 1, none⟩ = some (.int .i64 nw)) (ht : tf nw now = 0) (h0 : 0 ≤ y) (h1 : y ≤ 1099511627776) (hf : fault s t l q m ≠ 0) :
    Calls Tryd.prog 6 #[.pointer (some ⟨b, 0, none⟩), .int .i64 y, .agg #[.int .i64 s, .int .i64 t, .int .i64 l, .int .i64 q, .bool st, .slice a m cap], .int .i64 now] w fun e w' => e = .returned (.tuple #[.bool false, .int .i64 (fault s t l q m : Nat)]) ∧ Below w.heap.size w w' := by
  have hT := fun w h => time_calls b nw now w h
  rw [ht] at hT
  have HT := hidden hT
  have HL := hidden (fun w => RPack.rlong_yes y w h0 h1)
  have HC := hidden (fun w => RPack.rpacket_calls s t l q st a m cap w)
  have HC1 := hidden (fun O => cell_alloc h O)
  generalize fault s t l q m = f at *
  have d : ((f : Int) == 0) = false := by simp; omega
  clear ht h hT hf
  go_enter Tryd.func6, Tryd.ntmps6
  go_wp2_with fail
  refine (HT.out _ (HC1.out _)).mono ?_
  rintro e w' ⟨rfl, rfl⟩
  go_wp2_with fail
  refine (HL.out _).mono ?_
  rintro e w' ⟨rfl, rfl⟩
  go_wp2_with fail
  refine (HC.out _).mono ?_
  rintro e w1 ⟨rfl, hb1⟩
  have HB := hidden (below_old hb1)
  clear hb1
  go_wp2_with fail
  go_ret2
  exact ⟨rfl, HB.out⟩
set_option maxHeartbeats 1000000 in
set_option maxRecDepth 100000 in
theorem rpush_full (base b : Nat) (wt nw nx y now s t l q : Int) (st : Bool) (a : Option Addr) (m cap : Nat) (M : Its) (v : Value) (w : World) (h : RefAt w base b wt nw nx M v) (hI : OM.Inv nw nx M) (ht : tf nw now = 0) (h0 : 0 ≤ y) (h1 : y ≤ 1099511627776) (hf : fault s t l q m = 0) (hr : far nx y = true) :
    Calls Tryd.prog 6 #[.pointer (some ⟨b, 0, none⟩), .int .i64 y, .agg #[.int .i64 s, .int .i64 t, .int .i64 l, .int .i64 q, .bool st, .slice a m cap], .int .i64 now] w fun e w' => e = .returned (.tuple #[.bool false, .int .i64 4]) ∧ Below w.heap.size w w' := by
  have hT := fun w h => time_calls b nw now w h
  rw [ht] at hT
  have HT := hidden hT
  have HL := hidden (fun w => RPack.rlong_yes y w h0 h1)
  have hC := fun w => RPack.rpacket_calls s t l q st a m cap w
  rw [hf] at hC
  have HC := hidden hC
  have HC1 := hidden (fun O => cell_alloc h.cells.2.1 O)
  have HR := hidden h
  have x1 := hI.x1
  have x2 := hI.x2
  have hr2 : nx ≠ -1 ∧ 200 ≤ y - nx := by simpa [far] using hr
  have hn0 : 0 ≤ nx := by omega
  have hn1 : nx + 200 ≤ y := by omega
  clear ht h hT hf hC hI hr hr2
  go_enter Tryd.func6, Tryd.ntmps6
  go_wp2_with fail
  refine (HT.out _ (HC1.out _)).mono ?_
  rintro e w' ⟨rfl, rfl⟩
  go_wp2_with fail
  refine (HL.out _).mono ?_
  rintro e w' ⟨rfl, rfl⟩
  go_wp2_with fail
  refine (HC.out _).mono ?_
  rintro e w1 ⟨rfl, hb1⟩
  have HB := hidden (below_old hb1)
  obtain ⟨c0, c1, c2, c3⟩ := (HR.out.below HB.out).cells
  clear hb1
  go_wp2_with fail
  go_ret2
  exact ⟨rfl, HB.out⟩

/-- Push has found nothing wrong: the time is written, and the first number -/
structure PSt0 (w wr : World) (base b : Nat) (wt nw nx : Int) (M : Its) (v : Value) (s t l q : Int) (st : Bool) (bv : Value) : Prop where
  ref : RefAt wr base b wt nw nx M v
  box : Box wr w.heap.size s t l q st bv
  only : Only [b] w wr
set_option maxHeartbeats 4000000 in
set_option maxRecDepth 100000 in
theorem rpush_old (base b : Nat) (wt nw nx y now s t l q : Int) (st : Bool) (a : Option Addr) (m cap : Nat) (L : List Nat) (M : Its) (v : Value) (w : World) (h : RefAt w base b wt nw nx M v) (hI : OM.Inv nw nx M) (hS : Slices M) (hbase : base ≤ w.heap.size) (ht : tf nw now = 0) (h0 : 0 ≤ y) (h1 : y ≤ 1099511627776) (hf : fault s t l q m = 0) (hr : far nx y = false) (hk : y < fx nx y) :
    Calls Tryd.prog 6 #[.pointer (some ⟨b, 0, none⟩), .int .i64 y, .agg #[.int .i64 s, .int .i64 t, .int .i64 l, .int .i64 q, .bool st, .slice a m cap], .int .i64 now] w fun e w' => e = .returned (.tuple #[.bool false, .int .i64 0]) ∧ RefAt w' base b wt now (fx nx y) M v ∧ Only [b] w w' := by
  have hT := fun w h => time_calls b nw now w h
  rw [ht] at hT
  have HT := hidden hT
  have HL := hidden (fun w => RPack.rlong_yes y w h0 h1)
  have hC := fun w => RPack.rpacket_calls s t l q st a m cap w
  rw [hf] at hC
  have HC := hidden hC
  have HC1 := hidden (fun O => cell_alloc h.cells.2.1 O)
  have HR := hidden h
  have x1 := hI.x1
  have x2 := hI.x2
  have hlen : M.length ≤ 200 := hI.len
  have hr2 := far_no hr
  have hblt : b < w.heap.size := lt_of_block h.box
  have hfx : fx nx y = if nx = -1 then y else nx := rfl
  have HFx := hidden hfx
  generalize fx nx y = fv at *
  clear hfx
  clear ht h hT hf hC hI hr
  go_enter Tryd.func6, Tryd.ntmps6
  go_wp2_with fail
  refine (HT.out _ (HC1.out _)).mono ?_
  rintro e w' ⟨rfl, rfl⟩
  go_wp2_with fail
  refine (HL.out _).mono ?_
  rintro e w' ⟨rfl, rfl⟩
  go_wp2_with fail
  refine (HC.out _).mono ?_
  rintro e w1 ⟨rfl, hb1⟩
  have HB := hidden (below_old hb1)
  have HX1 := hidden ((Box.new w s t l q st (.slice a m cap)).below hb1 (by simp))
  obtain ⟨c0, c1, c2, c3⟩ := (HR.out.below HB.out).cells
  have f1 := freeb (HR.out.below HB.out).box 1
  have f2 := freeb (HR.out.below HB.out).box 2
  clear hb1 HT HL HC HC1
  by_cases hnx : nx = -1
  · have hfv : fv = y := by have := HFx.out; rw [if_pos hnx] at this; exact this
    have HP : Hid (PSt0 w ((w1.setCell ⟨b, 1, none⟩ (.int .i64 now)).setCell ⟨b, 2, none⟩ (.int .i64 y)) base b wt now fv M v s t l q st (.slice a m cap)) := by
      refine ⟨by rw [hfv]; exact (((HR.out.below HB.out).set 1 (.int .i64 now) rfl).set 2 (.int .i64 y) rfl), ?_, ((Only.of_below HB.out _).setCell (by simp) _).setCell (by simp) _⟩
      exact (((Only.refl [b] w1).setCell (by simp) _).setCell (by simp) _).block HX1.out (by simp; omega)
    have hyv : y = fv := hfv.symm
    obtain ⟨w5, hw5⟩ : ∃ w5, (w1.setCell ⟨b, 1, none⟩ (.int .i64 now)).setCell ⟨b, 2, none⟩ (.int .i64 y) = w5 := ⟨_, rfl⟩
    rw [hw5] at HP
    have HW5 := hidden hw5
    subst hnx
    have k2 : w5.cell? ⟨b, 2, none⟩ = some (.int .i64 y) := by have := HP.out.ref.cells.2.2.1; rw [hfv] at this; exact this
    have HFv := hidden hfv
    clear hfv hyv hw5 hr2
    exact absurd HFv.out (by omega)
  · have hfv : fv = nx := by have := HFx.out; rw [if_neg hnx] at this; exact this
    have hnx0 : 0 ≤ nx := by omega
    have hnx1 : y < nx + 200 := by omega
    have HP : Hid (PSt0 w (w1.setCell ⟨b, 1, none⟩ (.int .i64 now)) base b wt now fv M v s t l q st (.slice a m cap)) := by
      refine ⟨by rw [hfv]; exact (HR.out.below HB.out).set 1 (.int .i64 now) rfl, ?_, (Only.of_below HB.out _).setCell (by simp) _⟩
      exact ((Only.refl [b] w1).setCell (by simp) _).block HX1.out (by simp; omega)
    obtain ⟨w5, hw5⟩ : ∃ w5, w1.setCell ⟨b, 1, none⟩ (.int .i64 now) = w5 := ⟨_, rfl⟩
    rw [hw5] at HP
    have HW5 := hidden hw5
    have HFv := hidden hfv
    clear hfv hw5 hr2 hnx
    have hyn : y < nx := by have := HFv.out; omega
    have k2 : w5.cell? ⟨b, 2, none⟩ = some (.int .i64 nx) := by have := HP.out.ref.cells.2.2.1; rw [HFv.out] at this; exact this
    go_wp2_with fail
    go_ret2
    refine ⟨rfl, ?_⟩
    rw [HW5.out]
    exact ⟨HP.out.ref, HP.out.only⟩
set_option maxHeartbeats 4000000 in
set_option maxRecDepth 100000 in
theorem rpush_has (base b : Nat) (wt nw nx y now s t l q : Int) (st : Bool) (a : Option Addr) (m cap : Nat) (L : List Nat) (M : Its) (v : Value) (w : World) (h : RefAt w base b wt nw nx M v) (hI : OM.Inv nw nx M) (hS : Slices M) (hbase : base ≤ w.heap.size) (ht : tf nw now = 0) (h0 : 0 ≤ y) (h1 : y ≤ 1099511627776) (hf : fault s t l q m = 0) (hr : far nx y = false) (hk : has M y = true) (hk2 : fx nx y ≤ y) :
    Calls Tryd.prog 6 #[.pointer (some ⟨b, 0, none⟩), .int .i64 y, .agg #[.int .i64 s, .int .i64 t, .int .i64 l, .int .i64 q, .bool st, .slice a m cap], .int .i64 now] w fun e w' => e = .returned (.tuple #[.bool false, .int .i64 0]) ∧ RefAt w' base b wt now (fx nx y) M v ∧ Only [b] w w' := by
  have hT := fun w h => time_calls b nw now w h
  rw [ht] at hT
  have HT := hidden hT
  have HL := hidden (fun w => RPack.rlong_yes y w h0 h1)
  have hC := fun w => RPack.rpacket_calls s t l q st a m cap w
  rw [hf] at hC
  have HC := hidden hC
  have HC1 := hidden (fun O => cell_alloc h.cells.2.1 O)
  have HR := hidden h
  have x1 := hI.x1
  have x2 := hI.x2
  have hlen : M.length ≤ 200 := hI.len
  have hr2 := far_no hr
  have hblt : b < w.heap.size := lt_of_block h.box
  have hfx : fx nx y = if nx = -1 then y else nx := rfl
  have HFx := hidden hfx
  generalize fx nx y = fv at *
  have HAt := hidden (fun W (hW : RefAt W base b wt now fv M v) => at_yes base b wt now fv y M v W hW (by omega) hk)
  clear hfx hk
  clear ht h hT hf hC hI hr
  go_enter Tryd.func6, Tryd.ntmps6
  go_wp2_with fail
  refine (HT.out _ (HC1.out _)).mono ?_
  rintro e w' ⟨rfl, rfl⟩
  go_wp2_with fail
  refine (HL.out _).mono ?_
  rintro e w' ⟨rfl, rfl⟩
  go_wp2_with fail
  refine (HC.out _).mono ?_
  rintro e w1 ⟨rfl, hb1⟩
  have HB := hidden (below_old hb1)
  have HX1 := hidden ((Box.new w s t l q st (.slice a m cap)).below hb1 (by simp))
  obtain ⟨c0, c1, c2, c3⟩ := (HR.out.below HB.out).cells
  have f1 := freeb (HR.out.below HB.out).box 1
  have f2 := freeb (HR.out.below HB.out).box 2
  clear hb1 HT HL HC HC1
  by_cases hnx : nx = -1
  · have hfv : fv = y := by have := HFx.out; rw [if_pos hnx] at this; exact this
    have HP : Hid (PSt0 w ((w1.setCell ⟨b, 1, none⟩ (.int .i64 now)).setCell ⟨b, 2, none⟩ (.int .i64 y)) base b wt now fv M v s t l q st (.slice a m cap)) := by
      refine ⟨by rw [hfv]; exact (((HR.out.below HB.out).set 1 (.int .i64 now) rfl).set 2 (.int .i64 y) rfl), ?_, ((Only.of_below HB.out _).setCell (by simp) _).setCell (by simp) _⟩
      exact (((Only.refl [b] w1).setCell (by simp) _).setCell (by simp) _).block HX1.out (by simp; omega)
    have hyv : y = fv := hfv.symm
    obtain ⟨w5, hw5⟩ : ∃ w5, (w1.setCell ⟨b, 1, none⟩ (.int .i64 now)).setCell ⟨b, 2, none⟩ (.int .i64 y) = w5 := ⟨_, rfl⟩
    rw [hw5] at HP
    have HW5 := hidden hw5
    subst hnx
    have k2 : w5.cell? ⟨b, 2, none⟩ = some (.int .i64 y) := by have := HP.out.ref.cells.2.2.1; rw [hfv] at this; exact this
    have HFv := hidden hfv
    clear hfv hyv hw5 hr2
    go_wp2_with fail
    rw [HW5.out]
    refine (HAt.out w5 HP.out.ref).mono ?_
    rintro e w6 ⟨j, i, rfl, rfl, _, _⟩
    have hj0 : (0 : Int) ≤ (j : Int) := by omega
    go_wp2_with fail
    go_ret2
    exact ⟨rfl, HP.out.ref, HP.out.only⟩
  · have hfv : fv = nx := by have := HFx.out; rw [if_neg hnx] at this; exact this
    have hnx0 : 0 ≤ nx := by omega
    have hnx1 : y < nx + 200 := by omega
    have HP : Hid (PSt0 w (w1.setCell ⟨b, 1, none⟩ (.int .i64 now)) base b wt now fv M v s t l q st (.slice a m cap)) := by
      refine ⟨by rw [hfv]; exact (HR.out.below HB.out).set 1 (.int .i64 now) rfl, ?_, (Only.of_below HB.out _).setCell (by simp) _⟩
      exact ((Only.refl [b] w1).setCell (by simp) _).block HX1.out (by simp; omega)
    obtain ⟨w5, hw5⟩ : ∃ w5, w1.setCell ⟨b, 1, none⟩ (.int .i64 now) = w5 := ⟨_, rfl⟩
    rw [hw5] at HP
    have HW5 := hidden hw5
    have HFv := hidden hfv
    clear hfv hw5 hr2 hnx
    have hyn : ¬ y < nx := by have := HFv.out; omega
    go_wp2_with fail
    rw [HW5.out]
    refine (HAt.out w5 HP.out.ref).mono ?_
    rintro e w6 ⟨j, i, rfl, rfl, _, _⟩
    have hj0 : (0 : Int) ≤ (j : Int) := by omega
    go_wp2_with fail
    go_ret2
    exact ⟨rfl, HP.out.ref, HP.out.only⟩
/-- one more is written down -/
def NSt (w wx : World) (base b : Nat) (wt nw nx : Int) (M : Its) (v : Value) : Prop := ∃ v', RefAt wx base b wt nw nx M v' ∧ Only (b :: v.ownBlock.toList) w wx
set_option maxHeartbeats 4000000 in
set_option maxRecDepth 100000 in
theorem rpush_new (base b : Nat) (wt nw nx y now s t l q : Int) (st : Bool) (a : Option Addr) (m cap : Nat) (L : List Nat) (M : Its) (v : Value) (w : World) (h : RefAt w base b wt nw nx M v) (hI : OM.Inv nw nx M) (hS : Slices M) (hbase : base ≤ w.heap.size) (ht : tf nw now = 0) (h0 : 0 ≤ y) (h1 : y ≤ 1099511627776) (hf : fault s t l q m = 0) (hr : far nx y = false) (hk : has M y = false) (hk2 : fx nx y ≤ y) :
    Calls Tryd.prog 6 #[.pointer (some ⟨b, 0, none⟩), .int .i64 y, .agg #[.int .i64 s, .int .i64 t, .int .i64 l, .int .i64 q, .bool st, .slice a m cap], .int .i64 now] w fun e w' => e = .returned (.tuple #[.bool true, .int .i64 0]) ∧ NSt w w' base b wt now (fx nx y) (M ++ [⟨y, false, ⟨s, t, l, q, st, L, .slice a m cap⟩, now⟩]) v := by
  have hT := fun w h => time_calls b nw now w h
  rw [ht] at hT
  have HT := hidden hT
  have HL := hidden (fun w => RPack.rlong_yes y w h0 h1)
  have hC := fun w => RPack.rpacket_calls s t l q st a m cap w
  rw [hf] at hC
  have HC := hidden hC
  have HC1 := hidden (fun O => cell_alloc h.cells.2.1 O)
  have HR := hidden h
  have x1 := hI.x1
  have x2 := hI.x2
  have hlen : M.length ≤ 200 := hI.len
  have hr2 := far_no hr
  have hblt : b < w.heap.size := lt_of_block h.box
  have hfx : fx nx y = if nx = -1 then y else nx := rfl
  obtain ⟨i0, hii, hz0, hz1, hz2⟩ := info_parts infoKT
  have HFx := hidden hfx
  generalize fx nx y = fv at *
  have HAt := hidden (fun W (hW : RefAt W base b wt now fv M v) => at_no base b wt now fv y M v W hW (by omega) hk)
  obtain ⟨M2, hM2⟩ : ∃ M2 : Its, M ++ [⟨y, false, ⟨s, t, l, q, st, L, .slice a m cap⟩, now⟩] = M2 := ⟨_, rfl⟩
  rw [hM2]
  have HM2 := hidden hM2
  clear hfx hk hM2 hS
  clear ht h hT hf hC hI hr
  go_enter Tryd.func6, Tryd.ntmps6
  go_wp2_with fail
  refine (HT.out _ (HC1.out _)).mono ?_
  rintro e w' ⟨rfl, rfl⟩
  go_wp2_with fail
  refine (HL.out _).mono ?_
  rintro e w' ⟨rfl, rfl⟩
  go_wp2_with fail
  refine (HC.out _).mono ?_
  rintro e w1 ⟨rfl, hb1⟩
  have HB := hidden (below_old hb1)
  have HX1 := hidden ((Box.new w s t l q st (.slice a m cap)).below hb1 (by simp))
  obtain ⟨c0, c1, c2, c3⟩ := (HR.out.below HB.out).cells
  have f1 := freeb (HR.out.below HB.out).box 1
  have f2 := freeb (HR.out.below HB.out).box 2
  clear hb1 HT HL HC HC1
  by_cases hnx : nx = -1
  · have hfv : fv = y := by have := HFx.out; rw [if_pos hnx] at this; exact this
    have HP : Hid (PSt0 w ((w1.setCell ⟨b, 1, none⟩ (.int .i64 now)).setCell ⟨b, 2, none⟩ (.int .i64 y)) base b wt now fv M v s t l q st (.slice a m cap)) := by
      refine ⟨by rw [hfv]; exact (((HR.out.below HB.out).set 1 (.int .i64 now) rfl).set 2 (.int .i64 y) rfl), ?_, ((Only.of_below HB.out _).setCell (by simp) _).setCell (by simp) _⟩
      exact (((Only.refl [b] w1).setCell (by simp) _).setCell (by simp) _).block HX1.out (by simp; omega)
    have hyv : y = fv := hfv.symm
    obtain ⟨w5, hw5⟩ : ∃ w5, (w1.setCell ⟨b, 1, none⟩ (.int .i64 now)).setCell ⟨b, 2, none⟩ (.int .i64 y) = w5 := ⟨_, rfl⟩
    rw [hw5] at HP
    have HW5 := hidden hw5
    subst hnx
    have k2 : w5.cell? ⟨b, 2, none⟩ = some (.int .i64 y) := by have := HP.out.ref.cells.2.2.1; rw [hfv] at this; exact this
    have HFv := hidden hfv
    clear hfv hyv hw5 hr2
    go_wp2_with fail
    rw [HW5.out]
    refine (HAt.out w5 HP.out.ref).mono ?_
    rintro e w6 ⟨rfl, rfl⟩
    obtain ⟨p0, p1, p2, p3⟩ := HP.out.ref.cells
    obtain ⟨k0, k1, k2', k3, k4, k5⟩ := HP.out.box.cells
    have e3 := fun O => cell_alloc p3 O
    have HRow := hidden HP.out.ref.row
    have hbx := HP.out.ref.box
    have HGr : Hid (∀ W, ((w6.alloc (.cells #[.int .i64 y, .bool false, .int .i64 s, .int .i64 t, .int .i64 l, .int .i64 q, .bool st, .slice a m cap, .int .i64 now] 66)).drew).grownBy W v.ownBlock → W.heap[b]? = some (.cells #[.int .i64 wt, .int .i64 now, .int .i64 fv, v] 33 (0, 0))) := by
      refine hidden (fun W hg => ?_)
      have hlt : b < w6.heap.size := lt_of_block hbx
      refine (hg.block b (by simp; omega) (fun e => HP.out.ref.ne b e.symm rfl)).trans ((Below.heap_alloc _ _ _ hlt).trans hbx)
    have HGc : Hid (∀ W, ((w6.alloc (.cells #[.int .i64 y, .bool false, .int .i64 s, .int .i64 t, .int .i64 l, .int .i64 q, .bool st, .slice a m cap, .int .i64 now] 66)).drew).grownBy W v.ownBlock → W.cell? ⟨b, 3, none⟩ = some v) := hidden (fun W hg => (cells4 (HGr.out W hg)).2.2.2)
    have HGf : Hid (∀ W, ((w6.alloc (.cells #[.int .i64 y, .bool false, .int .i64 s, .int .i64 t, .int .i64 l, .int .i64 q, .bool st, .slice a m cap, .int .i64 now] 66)).drew).grownBy W v.ownBlock → W.frozen? ⟨b, 3, none⟩ = false) := hidden (fun W hg => freeb (HGr.out W hg) 3)
    have hsz : base ≤ w6.heap.size := Nat.le_trans hbase HP.out.only.2.2.2.1
    have HA2 : Hid (∀ g c W, ((w6.alloc (.cells #[.int .i64 y, .bool false, .int .i64 s, .int .i64 t, .int .i64 l, .int .i64 q, .bool st, .slice a m cap, .int .i64 now] 66)).drew).grownBy W v.ownBlock → W.ownsRow base 66 9 (.slice (some ⟨g, 0, none⟩) (M.length + 1) c) (M.length + 1) (flat c9 M ++ [.int .i64 y, .bool false, .int .i64 s, .int .i64 t, .int .i64 l, .int .i64 q, .bool st, .slice a m cap, .int .i64 now]) →
        NSt w (W.setCell ⟨b, 3, none⟩ (.slice (some ⟨g, 0, none⟩) (M.length + 1) c)) base b wt now fv M2 v) := by
      refine hidden (fun g c W hg hown => ?_)
      have ho : Only (b :: v.ownBlock.toList) w W := past (cs := v.ownBlock.toList) (HP.out.only.mono (by simp)) (((Only.refl v.ownBlock.toList w6).alloc _).drew.grown hg (by simp)) (by intro k hk; exact .inl (by simp [hk]))
      have hgb : g ≠ b := by
        intro e
        obtain ⟨cs, hc⟩ := row_block hown rfl
        rw [e, HGr.out W hg] at hc
        simp at hc
      refine ⟨.slice (some ⟨g, 0, none⟩) (M.length + 1) c, ⟨?_, ?_⟩, ho.setCell (by simp) _⟩
      · have := setb (HGr.out W hg) 3 (.slice (some ⟨g, 0, none⟩) (M.length + 1) c)
        exact this
      · rw [← HM2.out, flat_app, flat_one, List.length_append]
        refine ((Only.refl [b] W).setCell (by simp) _).owns hown ?_
        intro k hk hc
        simp [Value.ownBlock] at hk hc
        exact hgb (hk.trans hc)
    clear hbx
    go_upto_region 16 with fail
    go_cut [] from 73 (fun wx => Hid (NSt w wx base b wt now fv M2 v))
    case first =>
      go_region_law
        ((refine step_append_lies _ (by rfl) _ _ _ (by rfl) base 66 i0 _ 9 88 Tryd.underlying31 hii hz0 hz1 hz2 rfl (by omega) v M.length (flat c9 M) (by rfl) ((HRow.out.alloc _).drew)
            ⟨w6.heap.size, 0, none⟩ 1 1 [.int .i64 y, .bool false, .int .i64 s, .int .i64 t, .int .i64 l, .int .i64 q, .bool st, .slice a m cap, .int .i64 now] (by rfl) (by rfl) (World.news_of_block (cs := #[.int .i64 y, .bool false, .int .i64 s, .int .i64 t, .int .i64 l, .int .i64 q, .bool st, .slice a m cap, .int .i64 now]) (t := 66) (fr := (0, 0)) (heap_alloc_new w6 _)) (by simp [Value.oneCell'])
            (by omega) (by unfold maxLen; omega) (by omega) (by simp; omega) (w6.heap.size + 1) (by simp) ?_; intro gg c3 w4 hown hgrow hat hlt; have kc := HGc.out _ hgrow; have kf := HGf.out _ hgrow))
      all_goals go_wp2_with fail
      all_goals go_meet
      all_goals exact HA2.out _ _ _ hgrow hown
    case rest =>
      have HA := hidden hcut
      go_wp2_with fail
      go_ret2
      exact ⟨rfl, HA.out.out⟩
  · have hfv : fv = nx := by have := HFx.out; rw [if_neg hnx] at this; exact this
    have hnx0 : 0 ≤ nx := by omega
    have hnx1 : y < nx + 200 := by omega
    have HP : Hid (PSt0 w (w1.setCell ⟨b, 1, none⟩ (.int .i64 now)) base b wt now fv M v s t l q st (.slice a m cap)) := by
      refine ⟨by rw [hfv]; exact (HR.out.below HB.out).set 1 (.int .i64 now) rfl, ?_, (Only.of_below HB.out _).setCell (by simp) _⟩
      exact ((Only.refl [b] w1).setCell (by simp) _).block HX1.out (by simp; omega)
    obtain ⟨w5, hw5⟩ : ∃ w5, w1.setCell ⟨b, 1, none⟩ (.int .i64 now) = w5 := ⟨_, rfl⟩
    rw [hw5] at HP
    have HW5 := hidden hw5
    have HFv := hidden hfv
    clear hfv hw5 hr2 hnx
    have hyn : ¬ y < nx := by have := HFv.out; omega
    go_wp2_with fail
    rw [HW5.out]
    refine (HAt.out w5 HP.out.ref).mono ?_
    rintro e w6 ⟨rfl, rfl⟩
    obtain ⟨p0, p1, p2, p3⟩ := HP.out.ref.cells
    obtain ⟨k0, k1, k2', k3, k4, k5⟩ := HP.out.box.cells
    have e3 := fun O => cell_alloc p3 O
    have HRow := hidden HP.out.ref.row
    have hbx := HP.out.ref.box
    have HGr : Hid (∀ W, ((w6.alloc (.cells #[.int .i64 y, .bool false, .int .i64 s, .int .i64 t, .int .i64 l, .int .i64 q, .bool st, .slice a m cap, .int .i64 now] 66)).drew).grownBy W v.ownBlock → W.heap[b]? = some (.cells #[.int .i64 wt, .int .i64 now, .int .i64 fv, v] 33 (0, 0))) := by
      refine hidden (fun W hg => ?_)
      have hlt : b < w6.heap.size := lt_of_block hbx
      refine (hg.block b (by simp; omega) (fun e => HP.out.ref.ne b e.symm rfl)).trans ((Below.heap_alloc _ _ _ hlt).trans hbx)
    have HGc : Hid (∀ W, ((w6.alloc (.cells #[.int .i64 y, .bool false, .int .i64 s, .int .i64 t, .int .i64 l, .int .i64 q, .bool st, .slice a m cap, .int .i64 now] 66)).drew).grownBy W v.ownBlock → W.cell? ⟨b, 3, none⟩ = some v) := hidden (fun W hg => (cells4 (HGr.out W hg)).2.2.2)
    have HGf : Hid (∀ W, ((w6.alloc (.cells #[.int .i64 y, .bool false, .int .i64 s, .int .i64 t, .int .i64 l, .int .i64 q, .bool st, .slice a m cap, .int .i64 now] 66)).drew).grownBy W v.ownBlock → W.frozen? ⟨b, 3, none⟩ = false) := hidden (fun W hg => freeb (HGr.out W hg) 3)
    have hsz : base ≤ w6.heap.size := Nat.le_trans hbase HP.out.only.2.2.2.1
    have HA2 : Hid (∀ g c W, ((w6.alloc (.cells #[.int .i64 y, .bool false, .int .i64 s, .int .i64 t, .int .i64 l, .int .i64 q, .bool st, .slice a m cap, .int .i64 now] 66)).drew).grownBy W v.ownBlock → W.ownsRow base 66 9 (.slice (some ⟨g, 0, none⟩) (M.length + 1) c) (M.length + 1) (flat c9 M ++ [.int .i64 y, .bool false, .int .i64 s, .int .i64 t, .int .i64 l, .int .i64 q, .bool st, .slice a m cap, .int .i64 now]) →
        NSt w (W.setCell ⟨b, 3, none⟩ (.slice (some ⟨g, 0, none⟩) (M.length + 1) c)) base b wt now fv M2 v) := by
      refine hidden (fun g c W hg hown => ?_)
      have ho : Only (b :: v.ownBlock.toList) w W := past (cs := v.ownBlock.toList) (HP.out.only.mono (by simp)) (((Only.refl v.ownBlock.toList w6).alloc _).drew.grown hg (by simp)) (by intro k hk; exact .inl (by simp [hk]))
      have hgb : g ≠ b := by
        intro e
        obtain ⟨cs, hc⟩ := row_block hown rfl
        rw [e, HGr.out W hg] at hc
        simp at hc
      refine ⟨.slice (some ⟨g, 0, none⟩) (M.length + 1) c, ⟨?_, ?_⟩, ho.setCell (by simp) _⟩
      · have := setb (HGr.out W hg) 3 (.slice (some ⟨g, 0, none⟩) (M.length + 1) c)
        exact this
      · rw [← HM2.out, flat_app, flat_one, List.length_append]
        refine ((Only.refl [b] W).setCell (by simp) _).owns hown ?_
        intro k hk hc
        simp [Value.ownBlock] at hk hc
        exact hgb (hk.trans hc)
    clear hbx
    go_upto_region 16 with fail
    go_cut [] from 73 (fun wx => Hid (NSt w wx base b wt now fv M2 v))
    case first =>
      go_region_law
        ((refine step_append_lies _ (by rfl) _ _ _ (by rfl) base 66 i0 _ 9 88 Tryd.underlying31 hii hz0 hz1 hz2 rfl (by omega) v M.length (flat c9 M) (by rfl) ((HRow.out.alloc _).drew)
            ⟨w6.heap.size, 0, none⟩ 1 1 [.int .i64 y, .bool false, .int .i64 s, .int .i64 t, .int .i64 l, .int .i64 q, .bool st, .slice a m cap, .int .i64 now] (by rfl) (by rfl) (World.news_of_block (cs := #[.int .i64 y, .bool false, .int .i64 s, .int .i64 t, .int .i64 l, .int .i64 q, .bool st, .slice a m cap, .int .i64 now]) (t := 66) (fr := (0, 0)) (heap_alloc_new w6 _)) (by simp [Value.oneCell'])
            (by omega) (by unfold maxLen; omega) (by omega) (by simp; omega) (w6.heap.size + 1) (by simp) ?_; intro gg c3 w4 hown hgrow hat hlt; have kc := HGc.out _ hgrow; have kf := HGf.out _ hgrow))
      all_goals go_wp2_with fail
      all_goals go_meet
      all_goals exact HA2.out _ _ _ hgrow hown
    case rest =>
      have HA := hidden hcut
      go_wp2_with fail
      go_ret2
      exact ⟨rfl, HA.out.out⟩
end Go.Proofs.YtenjemcehhocoaeDoor.ROrder
