/-
  What Hear of package gaps returns, whatever it is given, and what it leaves in memory. Its condition: what is lacking is such as it may be.
-/
import Derived.Test.YtpiamlgmadnepaaGreatGapsB
namespace Go.Proofs.YtpiamlgmadnepaaGreat.Gaps
open Go.ChangeShapes Go.WideShapes Go.ChangeAt Go.RowKit Go.Maps Go.Sort Go.Shelf Go.Proofs.YtpiamlgmadnepaaGreat.Mem Go.Proofs.YtpiamlgmadnepaaGreat.GM
set_option linter.unusedVariables false

theorem at_bad (nw now : Int) (w : World) (h : tf nw now ≠ 0) :
    Calls Tryz.prog 66 #[.agg #[.int .i64 nw], .int .i64 now] w fun e w' => e = .returned (.tuple #[.agg #[.int .i64 0], errv (tf nw now)]) ∧ Below w.heap.size w w' := by
  have := at_calls nw now w
  rw [if_neg h] at this
  exact this
theorem at_ok (nw now : Int) (w : World) (h : tf nw now = 0) :
    Calls Tryz.prog 66 #[.agg #[.int .i64 nw], .int .i64 now] w fun e w' => e = .returned (.tuple #[.agg #[.int .i64 now], .nilIface]) ∧ Below w.heap.size w w' := by
  have := at_calls nw now w
  rw [if_pos h, h, errv_zero] at this
  exact this

set_option maxHeartbeats 1000000 in
set_option maxRecDepth 100000 in
theorem hear_time (b : Nat) (nw y now : Int) (w : World) (h : w.cell? ⟨b, 0, none⟩ = some (.int .i64 nw)) (ht : tf nw now ≠ 0) :
    Calls Tryz.prog 27 #[.pointer (some ⟨b, 0, none⟩), .int .i64 y, .int .i64 now] w fun e w' => e = .returned (.tuple #[.bool false, errv (tf nw now)]) ∧ Below w.heap.size w w' := by
  have HC := hidden (fun w => at_bad nw now w ht)
  generalize tf nw now = f at *
  have hc := cmp_ne f
  have hg := grd_ne f
  have d : decide (f = 0) = false := by simpa using ht
  clear ht
  go_enter Tryz.func27, Tryz.ntmps27
  go_wp2_with fail
  refine (HC.out _).mono ?_
  rintro e w1 ⟨rfl, hb1⟩
  have HB := hidden hb1
  clear hb1
  go_wp2_with fail
  go_ret2
  exact ⟨rfl, HB.out.alloc HB.out.size _⟩
set_option maxHeartbeats 1000000 in
set_option maxRecDepth 100000 in
theorem hear_range (b : Nat) (nw y now : Int) (w : World) (h : w.cell? ⟨b, 0, none⟩ = some (.int .i64 nw)) (ht : tf nw now = 0) (hy : y < 0 ∨ 1099511627776 < y) :
    Calls Tryz.prog 27 #[.pointer (some ⟨b, 0, none⟩), .int .i64 y, .int .i64 now] w fun e w' => e = .returned (.tuple #[.bool false, errv 1]) ∧ Below w.heap.size w w' := by
  have HC := hidden (fun w => at_ok nw now w ht)
  clear ht
  by_cases c : y < 0
  · clear hy
    go_enter Tryz.func27, Tryz.ntmps27
    go_wp2_with fail
    refine (HC.out _).mono ?_
    rintro e w1 ⟨rfl, hb1⟩
    have HB := hidden hb1
    clear hb1
    go_wp2_with fail
    go_ret2
    exact ⟨rfl, HB.out.alloc HB.out.size _⟩
  · have c' : 1099511627776 < y := by omega
    clear hy
    go_enter Tryz.func27, Tryz.ntmps27
    go_wp2_with fail
    refine (HC.out _).mono ?_
    rintro e w1 ⟨rfl, hb1⟩
    have HB := hidden hb1
    clear hb1
    go_wp2_with fail
    go_ret2
    exact ⟨rfl, HB.out.alloc HB.out.size _⟩

set_option maxHeartbeats 1000000 in
set_option maxRecDepth 100000 in
theorem hear_full (b mb : Nat) (ag tr nw T y now : Int) (M : Its) (gv : Value) (G : List Int) (w : World) (h : GapsAt w b mb ag tr nw T M gv G) (hI : GM.Inv ag tr nw T M) (ht : tf nw now = 0) (h0 : 0 ≤ y) (h1 : y ≤ 1099511627776) (hl : 200 < (M.length : Int) + lo T y) :
    Calls Tryz.prog 27 #[.pointer (some ⟨b, 0, none⟩), .int .i64 y, .int .i64 now] w fun e w' => e = .returned (.tuple #[.bool false, errv 4]) ∧ Below w.heap.size w w' := by
  have HC := hidden (fun w => at_ok nw now w ht)
  have HL := hidden (fun w h => leftOut_calls b T y w h hI.t1 hI.t2 h0 h1)
  have HG := hidden h
  have c0 := h.cells.1
  have hlen := hI.len
  have hlo : 0 ≤ lo T y ∧ lo T y ≤ 2199023255552 := by
    have := hI.t1
    have := hI.t2
    refine ⟨lo_nn, ?_⟩
    unfold lo; split <;> omega
  have HI := hidden hI
  generalize lo T y = k at *
  obtain ⟨hk0, hk1⟩ := hlo
  clear ht h hI
  go_enter Tryz.func27, Tryz.ntmps27
  go_wp2_with fail
  refine (HC.out _).mono ?_
  rintro e w1 ⟨rfl, hb1⟩
  have HB := hidden hb1
  clear hb1 c0
  have HG1 : Hid (GapsAt (w1.alloc (.cells #[.int .i64 now] 89)) b mb ag tr nw T M gv G) := (HG.out.below HB.out).below ((Below.refl _ _).alloc (Nat.le_refl _) _)
  obtain ⟨c0, c1, c2, c3, c4, c5⟩ := HG1.out.cells
  obtain ⟨D, hown, hK, hE⟩ := HG1.out.map
  have hs : Maps.size D = M.length := hK.size (hown.entries law3) HI.out.ris.apart
  have HO := hidden hown
  have HS := hidden hs
  clear hown hs hK hE
  go_wp2_with (at_len; refine wpList_len_own _ rfl _ 121 rfl 3 139 Tryz.underlying121 _ mb M.length D rfl HO.out ?_; rw [HS.out])
  refine (HL.out _ (by exact c3)).mono ?_
  rintro e w2 ⟨rfl, rfl⟩
  go_wp2_with fail
  go_ret2
  exact ⟨rfl, HB.out.alloc HB.out.size _⟩

set_option maxHeartbeats 2000000 in
set_option maxRecDepth 100000 in
theorem hear_rise (b mb : Nat) (ag tr nw T y now : Int) (M : Its) (gv : Value) (G : List Int) (w : World) (h : GapsAt w b mb ag tr nw T M gv G) (hI : GM.Inv ag tr nw T M) (ht : tf nw now = 0) (h0 : 0 ≤ y) (h1 : y ≤ 1099511627776) (hl : (M.length : Int) + lo T y ≤ 200) (hT : T < y) :
    Calls Tryz.prog 27 #[.pointer (some ⟨b, 0, none⟩), .int .i64 y, .int .i64 now] w fun e w' => e = .returned (.tuple #[.bool true, .nilIface]) ∧ GapsAt w' b mb ag tr now y (M ++ fresh T (lo T y).toNat) gv G ∧ Only [b, mb] w w' := by
  have HC := hidden (fun w => at_ok nw now w ht)
  have HL := hidden (fun w h => leftOut_calls b T y w h hI.t1 hI.t2 h0 h1)
  have HRi := hidden (fun w h => rise_calls b mb ag tr now T y M gv G w h (fun x hx => by have := hI.mem x hx; omega) hI.t1 hI.t2 h0 h1 hl)
  have HG := hidden h
  have c0 := h.cells.1
  have hlen := hI.len
  have hlo : 0 ≤ lo T y := lo_nn
  have HI := hidden hI
  obtain ⟨M2, hM2⟩ : ∃ M2, M ++ fresh T (lo T y).toNat = M2 := ⟨_, rfl⟩
  rw [hM2] at HRi ⊢
  clear hM2
  generalize lo T y = k at *
  clear ht h hI
  go_enter Tryz.func27, Tryz.ntmps27
  go_wp2_with fail
  refine (HC.out _).mono ?_
  rintro e w1 ⟨rfl, hb1⟩
  have HB := hidden hb1
  clear hb1 c0
  have HG1 : Hid (GapsAt (w1.alloc (.cells #[.int .i64 now] 89)) b mb ag tr nw T M gv G) := (HG.out.below HB.out).below ((Below.refl _ _).alloc (Nat.le_refl _) _)
  obtain ⟨c0, c1, c2, c3, c4, c5⟩ := HG1.out.cells
  have f0 := free6 HG1.out.box 0
  obtain ⟨D, hown, hK, hE⟩ := HG1.out.map
  have hs : Maps.size D = M.length := hK.size (hown.entries law3) HI.out.ris.apart
  have HO := hidden hown
  have HS := hidden hs
  clear hown hs hK hE
  go_wp2_with (at_len; refine wpList_len_own _ rfl _ 121 rfl 3 139 Tryz.underlying121 _ mb M.length D rfl HO.out ?_; rw [HS.out])
  refine (HL.out _ (by exact c3)).mono ?_
  rintro e w2 ⟨rfl, rfl⟩
  have hbw : b < w1.heap.size := (HG.out.below HB.out).lt b (by simp [blks])
  have HG2 : Hid (GapsAt ((w1.setCell ⟨b, 0, none⟩ (.int .i64 now)).alloc (.cells #[.int .i64 now] 89)) b mb ag tr now T M gv G) := ((HG.out.below HB.out).set 0 _ rfl).below ((Below.refl _ _).alloc (Nat.le_refl _) _)
  have k3 := HG2.out.cells.2.2.2.1
  have HO2 : Hid (Only [b, mb] w ((w1.setCell ⟨b, 0, none⟩ (.int .i64 now)).alloc (.cells #[.int .i64 now] 89))) := ((Only.of_below HB.out _).setCell (by simp) _).alloc _
  go_wp2_with fail
  refine (HRi.out _ (by exact HG2.out)).mono ?_
  rintro e w3 ⟨rfl, hg3, ho3⟩
  have HG3 := hidden hg3
  have HO3 := hidden (HO2.out.trans ho3)
  clear hg3 ho3
  go_wp2_with fail
  go_ret2
  exact ⟨rfl, HG3.out, HO3.out⟩

set_option maxHeartbeats 2000000 in
set_option maxRecDepth 100000 in
theorem hear_old (b mb : Nat) (ag tr nw T y now : Int) (M : Its) (gv : Value) (G : List Int) (w : World) (h : GapsAt w b mb ag tr nw T M gv G) (hI : GM.Inv ag tr nw T M) (ht : tf nw now = 0) (h0 : 0 ≤ y) (h1 : y ≤ 1099511627776) (hT : ¬ T < y) :
    Calls Tryz.prog 27 #[.pointer (some ⟨b, 0, none⟩), .int .i64 y, .int .i64 now] w fun e w' => e = .returned (.tuple #[.bool (has M y), .nilIface]) ∧ GapsAt w' b mb ag tr now T (M.filter fun i => decide (i.n ≠ y)) gv G ∧ Only [b, mb] w w' := by
  have HC := hidden (fun w => at_ok nw now w ht)
  have hlo : lo T y = 0 := by unfold lo; rw [if_pos (.inr (by omega))]
  have hL := fun w h => leftOut_calls b T y w h hI.t1 hI.t2 h0 h1
  rw [hlo] at hL
  have HL := hidden hL
  have HG := hidden h
  have c0 := h.cells.1
  have hlen := hI.len
  have HI := hidden hI
  have hwf := wf_of (y := y) (by omega) (by omega)
  obtain ⟨hb, hhb⟩ : ∃ hb, has M y = hb := ⟨_, rfl⟩
  rw [hhb]
  have HHb := hidden hhb
  clear ht h hI hlo hL hhb
  go_enter Tryz.func27, Tryz.ntmps27
  go_wp2_with fail
  refine (HC.out _).mono ?_
  rintro e w1 ⟨rfl, hb1⟩
  have HB := hidden hb1
  clear hb1 c0
  have HG1 : Hid (GapsAt (w1.alloc (.cells #[.int .i64 now] 89)) b mb ag tr nw T M gv G) := (HG.out.below HB.out).below ((Below.refl _ _).alloc (Nat.le_refl _) _)
  obtain ⟨c0, c1, c2, c3, c4, c5⟩ := HG1.out.cells
  have f0 := free6 HG1.out.box 0
  obtain ⟨D, hown, hK, hE⟩ := HG1.out.map
  have hs : Maps.size D = M.length := hK.size (hown.entries law3) HI.out.ris.apart
  have HO := hidden hown
  have HS := hidden hs
  have HK := hidden hK
  have HE := hidden hE
  clear hown hs hK hE
  go_wp2_with (at_len; refine wpList_len_own _ rfl _ 121 rfl 3 139 Tryz.underlying121 _ mb M.length D rfl HO.out ?_; rw [HS.out])
  refine (HL.out _ (by exact c3)).mono ?_
  rintro e w2 ⟨rfl, rfl⟩
  have hbw : b < w1.heap.size := (HG.out.below HB.out).lt b (by simp [blks])
  have HG2 : Hid (GapsAt ((w1.setCell ⟨b, 0, none⟩ (.int .i64 now)).alloc (.cells #[.int .i64 now] 89)) b mb ag tr now T M gv G) := ((HG.out.below HB.out).set 0 _ rfl).below ((Below.refl _ _).alloc (Nat.le_refl _) _)
  have HO2 : Hid (Only [b, mb] w ((w1.setCell ⟨b, 0, none⟩ (.int .i64 now)).alloc (.cells #[.int .i64 now] 89))) := ((Only.of_below HB.out _).setCell (by simp) _).alloc _
  have HOw2 : Hid (((w1.setCell ⟨b, 0, none⟩ (.int .i64 now)).alloc (.cells #[.int .i64 now] 89)).ownsMap Tryz.prog 3 akR mb M.length D) := by
    have hne := HG1.out.ne.1
    have ho : Only [b] w1 (w1.setCell ⟨b, 0, none⟩ (.int .i64 now)) := (Only.refl _ _).setCell (by simp) _
    obtain ⟨es, clock, h4, h5⟩ := HO.out
    have hmb : mb < w1.heap.size := (HG.out.below HB.out).lt mb (by simp [blks])
    rw [Below.heap_alloc _ _ _ hmb] at h4
    exact World.ownsMap.alloc ⟨es, clock, ho.block h4 (by simp; exact fun e => hne e.symm), h5⟩ _
  obtain ⟨v', ps, hrun, hr⟩ := HOw2.out.look_ok law3 Tryz.underlying121 (zeroAK _) (akR_mk 0 0) (keyOf3 hwf)
  obtain ⟨⟨t', a', rfl⟩, _⟩ := akR_inv hr
  rw [HK.out.at, HHb.out] at hrun
  have HOw3 : Hid (∀ O, ((((w1.setCell ⟨b, 0, none⟩ (.int .i64 now)).alloc (.cells #[.int .i64 now] 89))).alloc O).ownsMap Tryz.prog 3 akR mb M.length D) := hidden (fun O => HOw2.out.alloc O)
  have HG3 := hidden (fun O => HG2.out.below ((Below.refl _ _).alloc (Nat.le_refl _) O))
  have k3 := HG2.out.cells.2.2.2.1
  have k40 := HG2.out.cells.2.2.2.2.1
  have k4 := fun O => (HG3.out O).cells.2.2.2.2.1
  clear hr
  go_wp2_with (at_delete; refine wpList_delete_own _ rfl _ _ 121 3 rfl 139 law3 Tryz.underlying121 _ mb M.length D rfl (HOw3.out _) _ _ rfl (keyOf3 hwf) ?_; intro w4 hown4 hturn4)
  go_wp2_with fail
  go_ret2
  have ho4 := (Only.refl [mb] _).grown hturn4.grown (by simp)
  exact ⟨rfl, del_any (HG3.out _) HK.out HE.out HI.out.ris hown4 ho4, (HO2.out.alloc _).trans (ho4.mono (by simp))⟩
end Go.Proofs.YtpiamlgmadnepaaGreat.Gaps

