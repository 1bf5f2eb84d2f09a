/-
  GapsB, GapsC, GapsD, GapsE in one text.
-/
import Derived.Test.YtijfocggdjjnjaiGreatDoorGapsA
import Derived.RegionTactic
import Derived.Deep.AppendLies
import Derived.Deep.CutRange

/-
  What rise and GaveUp of package gaps return, and what they leave in memory. Their condition: what is lacking is such as it may be.
-/
namespace Go.Proofs.YtijfocggdjjnjaiGreatDoor.Gaps
open Go.ChangeShapes Go.WideShapes Go.ChangeAt Go.RowKit Go.Maps Go.Sort Go.Shelf Go.Proofs.YtijfocggdjjnjaiGreatDoor.Mem Go.Proofs.YtijfocggdjjnjaiGreatDoor.GM
set_option linter.unusedVariables false

/-- the map alone has changed -/
theorem GapsAt.turned {w w' : World} {b mb : Nat} {ag tr nw T : Int} {M M' : Its} {gv : Value} {G : List Int} (h : GapsAt w b mb ag tr nw T M gv G) (ho : Only [mb] w w') (hm : ∃ D, w'.ownsMap Tryz.prog 3 akR mb M'.length D ∧ Keys D M' ∧ Elems D M') : GapsAt w' b mb ag tr nw T M' gv G := by
  have hne := h.ne
  exact ⟨ho.block h.box (by simp; exact hne.1), hm, ho.owns h.row (fun k hk => by simp; exact (hne.2 k hk).2)⟩
theorem store_new {w : World} {b mb : Nat} {ag tr nw T : Int} {M : Its} {gv : Value} {G : List Int} (h : GapsAt w b mb ag tr nw T M gv G) (x : Lk) (hx : ∀ i ∈ M, i.n ≠ x.n) (hw : (Lit.int .i64 x.n).wf = true) (hl : M.length ≤ 1000) :
    ∃ w2, (Instr.mapUpdate 142 (.map (some mb)) (.int .i64 x.n) (.agg #[.int .i64 x.t, .int .i64 x.a])).run Tryz.prog w = .ok () w2 ∧ GapsAt w2 b mb ag tr nw T (M ++ [x]) gv G ∧ Only [mb] w w2 := by
  obtain ⟨D, hown, hK, hE⟩ := h.map
  obtain ⟨w2, hrun, hown2, hturn⟩ := hown.store law3 Tryz.underlying142 (by unfold maxLen; omega) (keyOf3 hw) (akR_mk x.t x.a)
  have ho : Only [mb] w w2 := (Only.refl _ _).grown hturn.grown (by simp)
  refine ⟨w2, hrun, h.turned ho ⟨_, ?_, keys_put hown.isMap hK x _, elems_put hown.isMap hE hx⟩, ho⟩
  simpa [lv] using hown2
theorem store_set {w : World} {b mb : Nat} {ag tr nw T : Int} {A B : Its} {gv : Value} {G : List Int} {x : Lk} (h : GapsAt w b mb ag tr nw T (A ++ x :: B) gv G) (y : Lk) (hy : y.n = x.n) (hr : Ris (A ++ x :: B)) (hr2 : Ris (A ++ y :: B)) (hw : (Lit.int .i64 x.n).wf = true) (hl : (A ++ x :: B).length ≤ 1000) :
    ∃ w2, (Instr.mapUpdate 142 (.map (some mb)) (.int .i64 x.n) (.agg #[.int .i64 y.t, .int .i64 y.a])).run Tryz.prog w = .ok () w2 ∧ GapsAt w2 b mb ag tr nw T (A ++ y :: B) gv G ∧ Only [mb] w w2 := by
  obtain ⟨D, hown, hK, hE⟩ := h.map
  obtain ⟨w2, hrun, hown2, hturn⟩ := hown.store law3 Tryz.underlying142 (by unfold maxLen; omega) (keyOf3 hw) (akR_mk y.t y.a)
  have ho : Only [mb] w w2 := (Only.refl _ _).grown hturn.grown (by simp)
  have hK2 := keys_set hown.isMap hK hy (.held (.agg #[.int .i64 y.t, .int .i64 y.a]))
  refine ⟨w2, hrun, h.turned ho ⟨_, ?_, hK2, elems_set hown.isMap hE hy (apart_mid hr)⟩, ho⟩
  have ht := GM.tight hown2
  rw [hK2.size (hown2.entries law3) hr2.apart] at ht
  exact ht
theorem del_mid {w w2 : World} {b mb n : Nat} {ag tr nw T : Int} {A B : Its} {gv : Value} {G : List Int} {x : Lk} {D : DataW Value} (h : GapsAt w b mb ag tr nw T (A ++ x :: B) gv G) (hK : Keys D (A ++ x :: B)) (hE : Elems D (A ++ x :: B)) (hr : Ris (A ++ x :: B)) (hown : w2.ownsMap Tryz.prog 3 akR mb n (D.del (key x.n))) (ho : Only [mb] w w2) : GapsAt w2 b mb ag tr nw T (A ++ B) gv G := by
  have ha := apart_mid hr
  have hK2 := keys_del hK ha
  refine h.turned ho ⟨_, ?_, hK2, elems_del hE ha⟩
  have ht := GM.tight hown
  have hr2 : Ris (A ++ B) := by
    unfold Ris at hr ⊢
    rw [List.pairwise_append, List.pairwise_cons] at hr
    rw [List.pairwise_append]
    exact ⟨hr.1, hr.2.1.2, fun a h1 c h2 => hr.2.2 a h1 c (by simp [h2])⟩
  rw [hK2.size (hown.entries law3) hr2.apart] at ht
  exact ht
theorem del_any {w w2 : World} {b mb n : Nat} {ag tr nw T y : Int} {M : Its} {gv : Value} {G : List Int} {D : DataW Value} (h : GapsAt w b mb ag tr nw T M gv G) (hK : Keys D M) (hE : Elems D M) (hr : Ris M) (hown : w2.ownsMap Tryz.prog 3 akR mb n (D.del (key y))) (ho : Only [mb] w w2) : GapsAt w2 b mb ag tr nw T (M.filter fun i => decide (i.n ≠ y)) gv G := by
  have hK2 := keys_strike hK y
  refine h.turned ho ⟨_, ?_, hK2, elems_strike hE y⟩
  have ht := GM.tight hown
  have hr2 : Ris (M.filter fun i => decide (i.n ≠ y)) := hr.filter _
  rw [hK2.size (hown.entries law3) hr2.apart] at ht
  exact ht

/-- under way: so many are lacking by now -/
def RSt (w wr : World) (b mb : Nat) (ag tr nw T : Int) (M : Its) (gv : Value) (G : List Int) (k : Nat) : Prop := GapsAt wr b mb ag tr nw T (M ++ fresh T k) gv G ∧ Only [b, mb] w wr
theorem rst_step {w wr : World} {b mb k : Nat} {ag tr nw T : Int} {M : Its} {gv : Value} {G : List Int} (h : RSt w wr b mb ag tr nw T M gv G k) (hm : ∀ x ∈ M, x.n ≤ T) (h0 : -1 ≤ T) (h1 : T ≤ 1099511627776) (hl : M.length + k ≤ 1000) :
    ∃ w2, (Instr.mapUpdate 142 (.map (some mb)) (.int .i64 (T + 1 + (k : Int))) (.agg #[.int .i64 0, .int .i64 0])).run Tryz.prog wr = .ok () w2 ∧ RSt w w2 b mb ag tr nw T M gv G (k + 1) := by
  obtain ⟨g1, g2⟩ := h
  obtain ⟨w2, hrun, hg, ho⟩ := store_new g1 ⟨T + 1 + (k : Int), 0, 0⟩ (by
    intro i hi
    rcases List.mem_append.1 hi with hi | hi
    · have := hm i hi; simp only; omega
    · obtain ⟨j, hj, rfl⟩ := mem_fresh.1 hi
      simp only
      omega) (wf_of (by simp only; omega) (by simp only; omega)) (by rw [List.length_append, fresh_len]; omega)
  refine ⟨w2, hrun, ?_, g2.trans (ho.mono (by simp))⟩
  rw [fresh_succ, ← List.append_assoc]
  exact hg

set_option maxHeartbeats 1000000 in
set_option maxRecDepth 100000 in
theorem rise_calls (b mb : Nat) (ag tr nw T y : Int) (M : Its) (gv : Value) (G : List Int) (w : World) (h : GapsAt w b mb ag tr nw T M gv G) (hm : ∀ x ∈ M, x.n ≤ T) (h0 : -1 ≤ T) (h1 : T ≤ 1099511627776) (h2 : 0 ≤ y) (h3 : y ≤ 1099511627776) (hl : (M.length : Int) + lo T y ≤ 200) :
    Calls Tryz.prog 67 #[.pointer (some ⟨b, 0, none⟩), .int .i64 y] w fun e w' => e = .returned (.tuple #[]) ∧ GapsAt w' b mb ag tr nw y (M ++ fresh T (lo T y).toNat) gv G ∧ Only [b, mb] w w' := by
  have HC := hidden (fun w h => leftOut_calls b T y w h h0 h1 h2 h3)
  have hlo := @lo_nn T y
  obtain ⟨K, hK⟩ : ∃ K : Nat, lo T y = (K : Int) := ⟨(lo T y).toNat, by omega⟩
  rw [hK] at HC hl ⊢
  rw [Int.toNat_natCast]
  clear hK hlo
  have HS0 : Hid (RSt w w b mb ag tr nw T M gv G 0) := ⟨by simpa [fresh] using h, Only.refl _ _⟩
  have HM := hidden hm
  have c3 := h.cells.2.2.2.1
  clear h hm
  go_enter Tryz.func67, Tryz.ntmps67
  go_wp2_with fail
  refine (HC.out _ (by exact c3)).mono ?_
  rintro e w1 ⟨rfl, rfl⟩
  clear c3
  go_wp2_with fail
  go_loopg [4, 8] K (fun g _ i' wr => ∃ (k : Nat), k + g = K ∧ i' = .int .i64 (k : Int) ∧ Hid (RSt w1 wr b mb ag tr nw T M gv G k))
  case atStart => exact ⟨0, by omega, rfl, HS0⟩
  case round =>
    obtain ⟨k, hkg, rfl, HS⟩ := hrel
    clear HS0
    obtain ⟨c0, c1, c2, c3, c4, c5⟩ := HS.out.1.cells
    have f3 := free6 HS.out.1.box 3
    clear c0 c1 c2 c5
    by_cases hk : k < K
    · have hkz : (k : Int) < (K : Int) := by omega
      have HSd : Hid (RSt w1 wr.drew b mb ag tr nw T M gv G k) := ⟨HS.out.1.below (Below.refl _ _).drew, HS.out.2.drew⟩
      obtain ⟨w2, hrun, hst⟩ := rst_step HSd.out HM.out h0 h1 (by omega)
      have HS2 := hidden hst
      clear hst HSd HS
      go_wp2_with fail
      go_region
      all_goals go_wp2_with fail
      go_roundg (K - (k + 1))
      case measure => omega
      case rel => exact ⟨k + 1, by omega, by go_num, HS2⟩
    · have hkz : ¬ (k : Int) < (K : Int) := by omega
      obtain rfl : k = K := by omega
      go_wp2_with fail
      go_end0
      exact ⟨rfl, HS.out.1.set 3 _ rfl, HS.out.2.setCell (by simp) _⟩

end Go.Proofs.YtijfocggdjjnjaiGreatDoor.Gaps

/-
  What Hear of package gaps returns, whatever it is given, and what it leaves in memory. Its condition: what is lacking is such as it may be.
-/
namespace Go.Proofs.YtijfocggdjjnjaiGreatDoor.Gaps
open Go.ChangeShapes Go.WideShapes Go.ChangeAt Go.RowKit Go.Maps Go.Sort Go.Shelf Go.Proofs.YtijfocggdjjnjaiGreatDoor.Mem Go.Proofs.YtijfocggdjjnjaiGreatDoor.GM
set_option linter.unusedVariables false

theorem at_bad (nw now : Int) (w : World) (h : tf nw now ≠ 0) :
    Calls Tryz.prog 22 #[.agg #[.int .i64 nw], .int .i64 now] w fun e w' => e = .returned (.tuple #[.agg #[.int .i64 0], errv (tf nw now)]) ∧ Below w.heap.size w w' := by
  have := at_calls nw now w
  rw [if_neg h] at this
  exact this
theorem at_ok (nw now : Int) (w : World) (h : tf nw now = 0) :
    Calls Tryz.prog 22 #[.agg #[.int .i64 nw], .int .i64 now] w fun e w' => e = .returned (.tuple #[.agg #[.int .i64 now], .nilIface]) ∧ Below w.heap.size w w' := by
  have := at_calls nw now w
  rw [if_pos h, h, errv_zero] at this
  exact this

set_option maxHeartbeats 1000000 in
set_option maxRecDepth 100000 in
theorem hear_time (b : Nat) (nw y now : Int) (w : World) (h : w.cell? ⟨b, 0, none⟩ = some (.int .i64 nw)) (ht : tf nw now ≠ 0) :
    Calls Tryz.prog 40 #[.pointer (some ⟨b, 0, none⟩), .int .i64 y, .int .i64 now] w fun e w' => e = .returned (.tuple #[.bool false, errv (tf nw now)]) ∧ Below w.heap.size w w' := by
  have HC := hidden (fun w => at_bad nw now w ht)
  generalize tf nw now = f at *
  have hc := cmp_ne f
  have hg := grd_ne f
  have d : decide (f = 0) = false := by simpa using ht
  clear ht
  go_enter Tryz.func40, Tryz.ntmps40
  go_wp2_with fail
  refine (HC.out _).mono ?_
  rintro e w1 ⟨rfl, hb1⟩
  have HB := hidden hb1
  clear hb1
  go_wp2_with fail
  go_ret2
  exact ⟨rfl, HB.out.alloc HB.out.size _⟩
set_option maxHeartbeats 1000000 in
set_option maxRecDepth 100000 in
theorem hear_range (b : Nat) (nw y now : Int) (w : World) (h : w.cell? ⟨b, 0, none⟩ = some (.int .i64 nw)) (ht : tf nw now = 0) (hy : y < 0 ∨ 1099511627776 < y) :
    Calls Tryz.prog 40 #[.pointer (some ⟨b, 0, none⟩), .int .i64 y, .int .i64 now] w fun e w' => e = .returned (.tuple #[.bool false, errv 1]) ∧ Below w.heap.size w w' := by
  have HC := hidden (fun w => at_ok nw now w ht)
  clear ht
  by_cases c : y < 0
  · clear hy
    go_enter Tryz.func40, Tryz.ntmps40
    go_wp2_with fail
    refine (HC.out _).mono ?_
    rintro e w1 ⟨rfl, hb1⟩
    have HB := hidden hb1
    clear hb1
    go_wp2_with fail
    go_ret2
    exact ⟨rfl, HB.out.alloc HB.out.size _⟩
  · have c' : 1099511627776 < y := by omega
    clear hy
    go_enter Tryz.func40, Tryz.ntmps40
    go_wp2_with fail
    refine (HC.out _).mono ?_
    rintro e w1 ⟨rfl, hb1⟩
    have HB := hidden hb1
    clear hb1
    go_wp2_with fail
    go_ret2
    exact ⟨rfl, HB.out.alloc HB.out.size _⟩

set_option maxHeartbeats 1000000 in
set_option maxRecDepth 100000 in
theorem hear_full (b mb : Nat) (ag tr nw T y now : Int) (M : Its) (gv : Value) (G : List Int) (w : World) (h : GapsAt w b mb ag tr nw T M gv G) (hI : GM.Inv ag tr nw T M) (ht : tf nw now = 0) (h0 : 0 ≤ y) (h1 : y ≤ 1099511627776) (hl : 200 < (M.length : Int) + lo T y) :
    Calls Tryz.prog 40 #[.pointer (some ⟨b, 0, none⟩), .int .i64 y, .int .i64 now] w fun e w' => e = .returned (.tuple #[.bool false, errv 4]) ∧ Below w.heap.size w w' := by
  have HC := hidden (fun w => at_ok nw now w ht)
  have HL := hidden (fun w h => leftOut_calls b T y w h hI.t1 hI.t2 h0 h1)
  have HG := hidden h
  have c0 := h.cells.1
  have hlen := hI.len
  have hlo : 0 ≤ lo T y ∧ lo T y ≤ 2199023255552 := by
    have := hI.t1
    have := hI.t2
    refine ⟨lo_nn, ?_⟩
    unfold lo; split <;> omega
  have HI := hidden hI
  generalize lo T y = k at *
  obtain ⟨hk0, hk1⟩ := hlo
  clear ht h hI
  go_enter Tryz.func40, Tryz.ntmps40
  go_wp2_with fail
  refine (HC.out _).mono ?_
  rintro e w1 ⟨rfl, hb1⟩
  have HB := hidden hb1
  clear hb1 c0
  have HG1 : Hid (GapsAt (w1.alloc (.cells #[.int .i64 now] 64)) b mb ag tr nw T M gv G) := (HG.out.below HB.out).below ((Below.refl _ _).alloc (Nat.le_refl _) _)
  obtain ⟨c0, c1, c2, c3, c4, c5⟩ := HG1.out.cells
  obtain ⟨D, hown, hK, hE⟩ := HG1.out.map
  have hs : Maps.size D = M.length := hK.size (hown.entries law3) HI.out.ris.apart
  have HO := hidden hown
  have HS := hidden hs
  clear hown hs hK hE
  go_wp2_with (at_len; refine wpList_len_own _ rfl _ 142 rfl 3 147 Tryz.underlying142 _ mb M.length D rfl HO.out ?_; rw [HS.out])
  refine (HL.out _ (by exact c3)).mono ?_
  rintro e w2 ⟨rfl, rfl⟩
  go_wp2_with fail
  go_ret2
  exact ⟨rfl, HB.out.alloc HB.out.size _⟩

set_option maxHeartbeats 2000000 in
set_option maxRecDepth 100000 in
theorem hear_rise (b mb : Nat) (ag tr nw T y now : Int) (M : Its) (gv : Value) (G : List Int) (w : World) (h : GapsAt w b mb ag tr nw T M gv G) (hI : GM.Inv ag tr nw T M) (ht : tf nw now = 0) (h0 : 0 ≤ y) (h1 : y ≤ 1099511627776) (hl : (M.length : Int) + lo T y ≤ 200) (hT : T < y) :
    Calls Tryz.prog 40 #[.pointer (some ⟨b, 0, none⟩), .int .i64 y, .int .i64 now] w fun e w' => e = .returned (.tuple #[.bool true, .nilIface]) ∧ GapsAt w' b mb ag tr now y (M ++ fresh T (lo T y).toNat) gv G ∧ Only [b, mb] w w' := by
  have HC := hidden (fun w => at_ok nw now w ht)
  have HL := hidden (fun w h => leftOut_calls b T y w h hI.t1 hI.t2 h0 h1)
  have HRi := hidden (fun w h => rise_calls b mb ag tr now T y M gv G w h (fun x hx => by have := hI.mem x hx; omega) hI.t1 hI.t2 h0 h1 hl)
  have HG := hidden h
  have c0 := h.cells.1
  have hlen := hI.len
  have hlo : 0 ≤ lo T y := lo_nn
  have HI := hidden hI
  obtain ⟨M2, hM2⟩ : ∃ M2, M ++ fresh T (lo T y).toNat = M2 := ⟨_, rfl⟩
  rw [hM2] at HRi ⊢
  clear hM2
  generalize lo T y = k at *
  clear ht h hI
  go_enter Tryz.func40, Tryz.ntmps40
  go_wp2_with fail
  refine (HC.out _).mono ?_
  rintro e w1 ⟨rfl, hb1⟩
  have HB := hidden hb1
  clear hb1 c0
  have HG1 : Hid (GapsAt (w1.alloc (.cells #[.int .i64 now] 64)) b mb ag tr nw T M gv G) := (HG.out.below HB.out).below ((Below.refl _ _).alloc (Nat.le_refl _) _)
  obtain ⟨c0, c1, c2, c3, c4, c5⟩ := HG1.out.cells
  have f0 := free6 HG1.out.box 0
  obtain ⟨D, hown, hK, hE⟩ := HG1.out.map
  have hs : Maps.size D = M.length := hK.size (hown.entries law3) HI.out.ris.apart
  have HO := hidden hown
  have HS := hidden hs
  clear hown hs hK hE
  go_wp2_with (at_len; refine wpList_len_own _ rfl _ 142 rfl 3 147 Tryz.underlying142 _ mb M.length D rfl HO.out ?_; rw [HS.out])
  refine (HL.out _ (by exact c3)).mono ?_
  rintro e w2 ⟨rfl, rfl⟩
  have hbw : b < w1.heap.size := (HG.out.below HB.out).lt b (by simp [blks])
  have HG2 : Hid (GapsAt ((w1.setCell ⟨b, 0, none⟩ (.int .i64 now)).alloc (.cells #[.int .i64 now] 64)) b mb ag tr now T M gv G) := ((HG.out.below HB.out).set 0 _ rfl).below ((Below.refl _ _).alloc (Nat.le_refl _) _)
  have k3 := HG2.out.cells.2.2.2.1
  have HO2 : Hid (Only [b, mb] w ((w1.setCell ⟨b, 0, none⟩ (.int .i64 now)).alloc (.cells #[.int .i64 now] 64))) := ((Only.of_below HB.out _).setCell (by simp) _).alloc _
  go_wp2_with fail
  refine (HRi.out _ (by exact HG2.out)).mono ?_
  rintro e w3 ⟨rfl, hg3, ho3⟩
  have HG3 := hidden hg3
  have HO3 := hidden (HO2.out.trans ho3)
  clear hg3 ho3
  go_wp2_with fail
  go_ret2
  exact ⟨rfl, HG3.out, HO3.out⟩

set_option maxHeartbeats 2000000 in
set_option maxRecDepth 100000 in
theorem hear_old (b mb : Nat) (ag tr nw T y now : Int) (M : Its) (gv : Value) (G : List Int) (w : World) (h : GapsAt w b mb ag tr nw T M gv G) (hI : GM.Inv ag tr nw T M) (ht : tf nw now = 0) (h0 : 0 ≤ y) (h1 : y ≤ 1099511627776) (hT : ¬ T < y) :
    Calls Tryz.prog 40 #[.pointer (some ⟨b, 0, none⟩), .int .i64 y, .int .i64 now] w fun e w' => e = .returned (.tuple #[.bool (has M y), .nilIface]) ∧ GapsAt w' b mb ag tr now T (M.filter fun i => decide (i.n ≠ y)) gv G ∧ Only [b, mb] w w' := by
  have HC := hidden (fun w => at_ok nw now w ht)
  have hlo : lo T y = 0 := by unfold lo; rw [if_pos (.inr (by omega))]
  have hL := fun w h => leftOut_calls b T y w h hI.t1 hI.t2 h0 h1
  rw [hlo] at hL
  have HL := hidden hL
  have HG := hidden h
  have c0 := h.cells.1
  have hlen := hI.len
  have HI := hidden hI
  have hwf := wf_of (y := y) (by omega) (by omega)
  obtain ⟨hb, hhb⟩ : ∃ hb, has M y = hb := ⟨_, rfl⟩
  rw [hhb]
  have HHb := hidden hhb
  clear ht h hI hlo hL hhb
  go_enter Tryz.func40, Tryz.ntmps40
  go_wp2_with fail
  refine (HC.out _).mono ?_
  rintro e w1 ⟨rfl, hb1⟩
  have HB := hidden hb1
  clear hb1 c0
  have HG1 : Hid (GapsAt (w1.alloc (.cells #[.int .i64 now] 64)) b mb ag tr nw T M gv G) := (HG.out.below HB.out).below ((Below.refl _ _).alloc (Nat.le_refl _) _)
  obtain ⟨c0, c1, c2, c3, c4, c5⟩ := HG1.out.cells
  have f0 := free6 HG1.out.box 0
  obtain ⟨D, hown, hK, hE⟩ := HG1.out.map
  have hs : Maps.size D = M.length := hK.size (hown.entries law3) HI.out.ris.apart
  have HO := hidden hown
  have HS := hidden hs
  have HK := hidden hK
  have HE := hidden hE
  clear hown hs hK hE
  go_wp2_with (at_len; refine wpList_len_own _ rfl _ 142 rfl 3 147 Tryz.underlying142 _ mb M.length D rfl HO.out ?_; rw [HS.out])
  refine (HL.out _ (by exact c3)).mono ?_
  rintro e w2 ⟨rfl, rfl⟩
  have hbw : b < w1.heap.size := (HG.out.below HB.out).lt b (by simp [blks])
  have HG2 : Hid (GapsAt ((w1.setCell ⟨b, 0, none⟩ (.int .i64 now)).alloc (.cells #[.int .i64 now] 64)) b mb ag tr now T M gv G) := ((HG.out.below HB.out).set 0 _ rfl).below ((Below.refl _ _).alloc (Nat.le_refl _) _)
  have HO2 : Hid (Only [b, mb] w ((w1.setCell ⟨b, 0, none⟩ (.int .i64 now)).alloc (.cells #[.int .i64 now] 64))) := ((Only.of_below HB.out _).setCell (by simp) _).alloc _
  have HOw2 : Hid (((w1.setCell ⟨b, 0, none⟩ (.int .i64 now)).alloc (.cells #[.int .i64 now] 64)).ownsMap Tryz.prog 3 akR mb M.length D) := by
    have hne := HG1.out.ne.1
    have ho : Only [b] w1 (w1.setCell ⟨b, 0, none⟩ (.int .i64 now)) := (Only.refl _ _).setCell (by simp) _
    obtain ⟨es, clock, h4, h5⟩ := HO.out
    have hmb : mb < w1.heap.size := (HG.out.below HB.out).lt mb (by simp [blks])
    rw [Below.heap_alloc _ _ _ hmb] at h4
    exact World.ownsMap.alloc ⟨es, clock, ho.block h4 (by simp; exact fun e => hne e.symm), h5⟩ _
  obtain ⟨v', ps, hrun, hr⟩ := HOw2.out.look_ok law3 Tryz.underlying142 (zeroAK _) (akR_mk 0 0) (keyOf3 hwf)
  obtain ⟨⟨t', a', rfl⟩, _⟩ := akR_inv hr
  rw [HK.out.at, HHb.out] at hrun
  have HOw3 : Hid (∀ O, ((((w1.setCell ⟨b, 0, none⟩ (.int .i64 now)).alloc (.cells #[.int .i64 now] 64))).alloc O).ownsMap Tryz.prog 3 akR mb M.length D) := hidden (fun O => HOw2.out.alloc O)
  have HG3 := hidden (fun O => HG2.out.below ((Below.refl _ _).alloc (Nat.le_refl _) O))
  have k3 := HG2.out.cells.2.2.2.1
  have k40 := HG2.out.cells.2.2.2.2.1
  have k4 := fun O => (HG3.out O).cells.2.2.2.2.1
  clear hr
  go_wp2_with (at_delete; refine wpList_delete_own _ rfl _ _ 142 3 rfl 147 law3 Tryz.underlying142 _ mb M.length D rfl (HOw3.out _) _ _ rfl (keyOf3 hwf) ?_; intro w4 hown4 hturn4)
  go_wp2_with fail
  go_ret2
  have ho4 := (Only.refl [mb] _).grown hturn4.grown (by simp)
  exact ⟨rfl, del_any (HG3.out _) HK.out HE.out HI.out.ris hown4 ho4, (HO2.out.alloc _).trans (ho4.mono (by simp))⟩
end Go.Proofs.YtijfocggdjjnjaiGreatDoor.Gaps

/-
  What Due of package gaps returns, whatever it is given, and what it leaves in memory. Its condition: what is lacking is such as it may be.
-/
namespace Go.Proofs.YtijfocggdjjnjaiGreatDoor.Gaps
open Go.ChangeShapes Go.WideShapes Go.ChangeAt Go.RowKit Go.Maps Go.Sort Go.Shelf Go.Proofs.YtijfocggdjjnjaiGreatDoor.Mem Go.Proofs.YtijfocggdjjnjaiGreatDoor.GM
set_option linter.unusedVariables false

theorem look_at {w : World} {b mb : Nat} {ag tr nw T : Int} {M : Its} {gv : Value} {G : List Int} (h : GapsAt w b mb ag tr nw T M gv G) {x : Lk} (hx : x ∈ M) (hw : (Lit.int .i64 x.n).wf = true) :
    (Instr.lookup 142 (.map (some mb)) (.int .i64 x.n) false).run Tryz.prog w = .ok (.agg #[.int .i64 x.t, .int .i64 x.a]) w := by
  obtain ⟨D, hown, hK, hE⟩ := h.map
  obtain ⟨v', ps, hrun, hr⟩ := hown.lookup law3 Tryz.underlying142 (zeroAK w) (akR_mk 0 0) (keyOf3 hw)
  rw [hE x hx] at hr
  have e := (akR_inv hr).2
  simp only [Prod.mk.injEq, DataW.held.injEq] at e
  rw [hrun, ← e.1]
  rfl

theorem cells2 {w : World} {b : Nat} {v0 v1 : Value} {t : TypeId} (h : w.heap[b]? = some (.cells #[v0, v1] t (0, 0))) : w.cell? ⟨b, 0, none⟩ = some v0 ∧ w.cell? ⟨b, 1, none⟩ = some v1 := by
  refine ⟨?_, ?_⟩ <;> simp [World.cell?, h]

/-- under way: k of those that were lacking are done; kv their numbers, dv what is asked for, gv2 what was given up -/
structure DSt (w wr : World) (B b mb : Nat) (ag tr now T : Int) (M : Its) (gv : Value) (G : List Int) (k : Nat) (kv dv gv2 : Value) : Prop where
  gaps : GapsAt wr b mb ag tr now T (dM ag tr now (M.take k) ++ M.drop k) gv2 (G ++ gaveL ag tr now (M.take k))
  keys : wr.ownsRow w.heap.size 3 1 kv M.length (ic (nums M))
  due : wr.ownsRow B 3 1 dv (dueL ag tr now (M.take k)).length (ic (dueL ag tr now (M.take k)))
  kb : ∀ j, kv.ownBlock = some j → w.heap.size ≤ j ∧ j < B
  gb : ∀ j, gv2.ownBlock = some j → (gv.ownBlock = some j ∧ j < w.heap.size) ∨ (B ≤ j ∧ dv.ownBlock ≠ some j)
  s1 : w.heap.size ≤ B
  s2 : B ≤ wr.heap.size
  only : Only (blks b mb gv) w wr
  bb : b < w.heap.size
  mm : mb < w.heap.size
theorem DSt.below {w wr wy : World} {B b mb : Nat} {ag tr now T : Int} {M : Its} {gv : Value} {G : List Int} {k : Nat} {kv dv gv2 : Value} (h : DSt w wr B b mb ag tr now T M gv G k kv dv gv2) (hb : Below wr.heap.size wr wy) : DSt w wy B b mb ag tr now T M gv G k kv dv gv2 :=
  { h with gaps := h.gaps.below hb, keys := (Only.of_below hb []).owns h.keys (by simp), due := (Only.of_below hb []).owns h.due (by simp), s2 := Nat.le_trans h.s2 hb.size, only := h.only.trans (Only.of_below hb _) }
theorem take_one {M : Its} {k : Nat} {x : Lk} (hx : M[k]? = some x) : M.take (k + 1) = M.take k ++ [x] ∧ M.drop k = x :: M.drop (k + 1) := by
  have hk : k < M.length := (List.getElem?_eq_some_iff.1 hx).1
  have e : M[k] = x := (List.getElem?_eq_some_iff.1 hx).2
  refine ⟨?_, ?_⟩
  · rw [List.take_add_one, hx]; rfl
  · rw [List.drop_eq_getElem_cons hk, e]
/-- it may still come -/
theorem DSt.stay {w wr : World} {B b mb : Nat} {ag tr now T : Int} {M : Its} {gv : Value} {G : List Int} {k : Nat} {kv dv gv2 : Value} {x : Lk} (h : DSt w wr B b mb ag tr now T M gv G k kv dv gv2) (hx : M[k]? = some x) (hs : stays ag now x = true) : DSt w wr B b mb ag tr now T M gv G (k + 1) kv dv gv2 := by
  obtain ⟨e1, e2⟩ := take_one hx
  obtain ⟨o1, o2, o3⟩ := one_stays (tr := tr) hs
  refine { h with gaps := ?_, due := ?_ }
  · rw [e1, dM_app, gaveL_app, o1, o3, List.append_nil, List.append_assoc]
    have := h.gaps
    rw [e2] at this
    exact this
  · rw [e1, dueL_app, o2, List.append_nil]
    exact h.due
/-- the list rises all the while -/
theorem ris_mid {ag tr nw T now : Int} {M : Its} (hI : GM.Inv ag tr nw T M) {k : Nat} {x : Lk} (hx : M[k]? = some x) : Ris (dM ag tr now (M.take k) ++ x :: M.drop (k + 1)) := by
  obtain ⟨e1, e2⟩ := take_one hx
  have hr := hI.ris
  have hM : M = M.take k ++ M.drop k := (List.take_append_drop k M).symm
  rw [e2] at hM
  rw [hM] at hr
  unfold Ris at hr ⊢
  rw [List.pairwise_append] at hr ⊢
  refine ⟨?_, hr.2.1, ?_⟩
  · unfold dM
    rw [List.pairwise_map]
    exact (hr.1.filter _).imp fun q => by rw [next_n, next_n]; exact q
  · intro a ha c hc
    obtain ⟨y, hy, rfl⟩ := List.mem_map.1 ha
    rw [next_n]
    exact hr.2.2 y (List.mem_filter.1 hy).1 c hc
theorem ris_next {A B : Its} {x y : Lk} (h : Ris (A ++ x :: B)) (hy : y.n = x.n) : Ris (A ++ y :: B) := by
  unfold Ris at h ⊢
  rw [List.pairwise_append, List.pairwise_cons] at h ⊢
  refine ⟨h.1, ⟨fun a ha => ?_, h.2.1.2⟩, fun a ha c hc => ?_⟩
  · rw [hy]; exact h.2.1.1 a ha
  · rcases List.mem_cons.1 hc with rfl | hc
    · rw [hy]; exact h.2.2 a ha x (by simp)
    · exact h.2.2 a ha c (by simp [hc])
theorem mid_len {ag tr now : Int} {M : Its} {k : Nat} {x : Lk} (hx : M[k]? = some x) : (dM ag tr now (M.take k) ++ x :: M.drop (k + 1)).length ≤ M.length := by
  have hk : k < M.length := (List.getElem?_eq_some_iff.1 hx).1
  have := List.length_filter_le (fun x => !gives ag tr now x) (M.take k)
  simp [dM] at this ⊢
  omega
/-- it is given up: the map is without it, the row has it -/
theorem DSt.give {w wr w4 w6 : World} {B b mb g n cap : Nat} {ag tr now T : Int} {M : Its} {gv : Value} {G : List Int} {k : Nat} {kv dv gv2 : Value} {x : Lk} {O : Obj} (h : DSt w wr B b mb ag tr now T M gv G k kv dv gv2) (hx : M[k]? = some x) (hs : stays ag now x = false) (ht : x.t = tr)
    (h4 : GapsAt w4 b mb ag tr now T (dM ag tr now (M.take k) ++ M.drop (k + 1)) gv2 (G ++ gaveL ag tr now (M.take k))) (ho4 : Only [mb] wr w4)
    (hn : n = (G ++ gaveL ag tr now (M.take k)).length) (hown : w6.ownsRow 0 3 1 (.slice (some ⟨g, 0, none⟩) (n + 1) cap) (n + 1) (ic (G ++ gaveL ag tr now (M.take k)) ++ [.int .i64 x.n])) (hgrow : (w4.alloc O).grownBy w6 gv2.ownBlock) (hat : gv2.ownBlock = some g ∨ g = w4.heap.size + 1) :
    DSt w (w6.setCell ⟨b, 5, none⟩ (.slice (some ⟨g, 0, none⟩) (n + 1) cap)) B b mb ag tr now T M gv G (k + 1) kv dv (.slice (some ⟨g, 0, none⟩) (n + 1) cap) := by
  obtain ⟨e1, e2⟩ := take_one hx
  obtain ⟨o1, o2, o3⟩ := one_gives hs ht
  have hsz : w4.heap.size = w4.heap.size := rfl
  have h4s : wr.heap.size ≤ w4.heap.size := ho4.2.2.2.1
  have oA : Only gv2.ownBlock.toList w4 w6 := ((Only.refl _ w4).alloc O).trans ((Only.refl _ _).grown hgrow (by simp))
  have hne := h4.ne
  have hbx := h4.box
  have lt4 := h4.lt
  have s1 := h.s1
  have s2 := h.s2
  have gb := h.gb
  have kb := h.kb
  have bb := h.bb
  have mm := h.mm
  have hgb : g ≠ b := by
    rcases hat with hat | hat
    · exact (hne.2 g hat).1
    · have := lt4 b (by simp [blks]); omega
  have hgm : g ≠ mb := by
    rcases hat with hat | hat
    · exact (hne.2 g hat).2
    · have := lt4 mb (by simp [blks]); omega
  have oS : Only (b :: gv2.ownBlock.toList) w4 (w6.setCell ⟨b, 5, none⟩ (.slice (some ⟨g, 0, none⟩) (n + 1) cap)) := (oA.mono (by intro k hk; simp at hk; simp [hk])).setCell (by simp) _
  have oB : Only [b] w6 (w6.setCell ⟨b, 5, none⟩ (.slice (some ⟨g, 0, none⟩) (n + 1) cap)) := (Only.refl _ _).setCell (by simp) _
  have oAll : Only (mb :: b :: gv2.ownBlock.toList) wr (w6.setCell ⟨b, 5, none⟩ (.slice (some ⟨g, 0, none⟩) (n + 1) cap)) := (ho4.mono (by simp)).trans (oS.mono (by intro k hk; exact List.mem_cons_of_mem _ hk))
  have gsz : ∀ j, gv2.ownBlock = some j → j < wr.heap.size := fun j hj => h.gaps.lt j (by simp [blks, hj])
  refine { h with gaps := ⟨?_, ?_, ?_⟩, keys := ?_, due := ?_, gb := ?_, s2 := Nat.le_trans s2 oAll.2.2.2.1, only := ?_ }
  · have hb6 := oA.block hbx (by intro hc; simp at hc; exact (hne.2 b hc).1 rfl)
    exact setb hb6 5 _
  · rw [e1, dM_app, o1, List.append_nil]
    obtain ⟨D, ⟨es, clock, m4, m5⟩, m6⟩ := h4.map
    exact ⟨D, ⟨es, clock, oS.block m4 (by intro hc; simp at hc; rcases hc with hc | hc; exact hne.1 hc.symm; exact (hne.2 mb hc).2 rfl), m5⟩, m6⟩
  · rw [e1, gaveL_app, o3, ← List.append_assoc, List.length_append, List.length_singleton, ← hn, ic_app]
    exact oB.owns hown (by intro j hj hc; simp [Value.ownBlock] at hj hc; omega)
  · refine oAll.owns h.keys ?_
    intro j hj hc
    have := kb j hj
    simp at hc
    rcases hc with hc | hc | hc
    · omega
    · omega
    · rcases gb j hc with q | q <;> omega
  · rw [e1, dueL_app, o2, List.append_nil]
    refine oAll.owns h.due ?_
    intro j hj hc
    have := (h.due.lt j hj).1
    simp at hc
    rcases hc with hc | hc | hc
    · omega
    · omega
    · rcases gb j hc with q | q
      · omega
      · exact q.2 hj
  · intro j hj
    simp [Value.ownBlock] at hj
    subst hj
    rcases hat with hat | hat
    · exact gb _ hat
    · refine .inr ⟨by omega, fun hd => ?_⟩
      have := (h.due.lt _ hd).2
      omega
  · refine past h.only oAll ?_
    intro j hj
    simp at hj
    rcases hj with rfl | rfl | hj
    · exact .inl (by simp [blks])
    · exact .inl (by simp [blks])
    · rcases gb j hj with q | q
      · exact .inl (by simp [blks, q.1])
      · exact .inr (by omega)
/-- it is asked for: the map knows it, the row has it -/
theorem DSt.ask {w wr w4 w6 : World} {B b mb g n cap : Nat} {ag tr now T : Int} {M : Its} {gv : Value} {G : List Int} {k : Nat} {kv dv gv2 : Value} {x : Lk} {O : Obj} (h : DSt w wr B b mb ag tr now T M gv G k kv dv gv2) (hx : M[k]? = some x) (hs : stays ag now x = false) (ht : x.t ≠ tr)
    (h4 : GapsAt w4 b mb ag tr now T (dM ag tr now (M.take k) ++ ⟨x.n, x.t + 1, now⟩ :: M.drop (k + 1)) gv2 (G ++ gaveL ag tr now (M.take k))) (ho4 : Only [mb] wr w4)
    (hn : n = (dueL ag tr now (M.take k)).length) (hown : w6.ownsRow B 3 1 (.slice (some ⟨g, 0, none⟩) (n + 1) cap) (n + 1) (ic (dueL ag tr now (M.take k)) ++ [.int .i64 x.n])) (hgrow : (w4.alloc O).grownBy w6 dv.ownBlock) (hat : dv.ownBlock = some g ∨ g = w4.heap.size + 1) :
    DSt w w6 B b mb ag tr now T M gv G (k + 1) kv (.slice (some ⟨g, 0, none⟩) (n + 1) cap) gv2 := by
  obtain ⟨e1, e2⟩ := take_one hx
  obtain ⟨o1, o2, o3⟩ := one_asks hs ht
  have h4s : wr.heap.size ≤ w4.heap.size := ho4.2.2.2.1
  have oA : Only dv.ownBlock.toList w4 w6 := ((Only.refl _ w4).alloc O).trans ((Only.refl _ _).grown hgrow (by simp))
  have s1 := h.s1
  have s2 := h.s2
  have gb := h.gb
  have kb := h.kb
  have bb := h.bb
  have mm := h.mm
  have db : ∀ j, dv.ownBlock = some j → B ≤ j ∧ j < wr.heap.size := fun j hj => h.due.lt j hj
  have oAll : Only (mb :: dv.ownBlock.toList) wr w6 := (ho4.mono (by simp)).trans (oA.mono (by intro k hk; simp at hk; simp [hk]))
  refine { h with gaps := ?_, keys := ?_, due := ?_, gb := ?_, s2 := Nat.le_trans s2 oAll.2.2.2.1, only := ?_ }
  · rw [e1, dM_app, gaveL_app, o1, o3, List.append_nil, List.append_assoc]
    refine h4.only oA ?_
    intro j hj hc
    simp at hc
    have := db j hc
    simp only [blks, List.mem_cons, Option.mem_toList] at hj
    rcases hj with rfl | rfl | hj
    · omega
    · omega
    · rcases gb j hj with q | q
      · omega
      · exact q.2 hc
  · refine oAll.owns h.keys ?_
    intro j hj hc
    have := kb j hj
    simp at hc
    rcases hc with hc | hc
    · omega
    · have := db j hc; omega
  · rw [e1, dueL_app, o2, List.length_append, List.length_singleton, ← hn, ic_app]
    exact hown
  · intro j hj
    rcases gb j hj with q | q
    · exact .inl q
    · refine .inr ⟨q.1, ?_⟩
      intro hd
      simp [Value.ownBlock] at hd
      rcases hat with hat | hat
      · exact q.2 (by rw [hat, hd])
      · have := h.gaps.lt j (by simp [blks, hj]); omega
  · refine past h.only oAll ?_
    intro j hj
    simp at hj
    rcases hj with rfl | hj
    · exact .inl (by simp [blks])
    · have := db j hj
      exact .inr (by omega)

end Go.Proofs.YtijfocggdjjnjaiGreatDoor.Gaps

/-
  What Hear and Due of package gaps return, whatever they are given, and what they leave in memory: one row each. Their condition: what is lacking is such as it may be.
-/
namespace Go.Proofs.YtijfocggdjjnjaiGreatDoor.Gaps
open Go.ChangeShapes Go.WideShapes Go.ChangeAt Go.RowKit Go.Maps Go.Sort Go.Shelf Go.Proofs.YtijfocggdjjnjaiGreatDoor.Mem Go.Proofs.YtijfocggdjjnjaiGreatDoor.GM
set_option linter.unusedVariables false

theorem hear_calls (b mb : Nat) (ag tr nw T y now : Int) (M : Its) (gv : Value) (G : List Int) (w : World) (h : GapsAt w b mb ag tr nw T M gv G) (hI : GM.Inv ag tr nw T M) :
    Calls Tryz.prog 40 #[.pointer (some ⟨b, 0, none⟩), .int .i64 y, .int .i64 now] w fun e w' => e = .returned (.tuple #[.bool (hB nw T M y now), errv (hf nw T M y now)]) ∧
      GapsAt w' b mb ag tr (hN nw T M y now) (hU nw T M y now) (hL nw T M y now) gv G ∧ Only [b, mb] w w' := by
  have same : ∀ w', hf nw T M y now ≠ 0 → Below w.heap.size w w' → hB nw T M y now = false ∧ GapsAt w' b mb ag tr (hN nw T M y now) (hU nw T M y now) (hL nw T M y now) gv G ∧ Only [b, mb] w w' := by
    intro w' h0 hb
    unfold hB hN hU hL
    simp only [h0, decide_false, Bool.false_and, if_false]
    exact ⟨trivial, h.below hb, Only.of_below hb _⟩
  by_cases ht : tf nw now = 0
  case neg =>
    have e1 : hf nw T M y now = tf nw now := by unfold hf; rw [if_pos ht]
    refine (hear_time b nw y now w h.cells.1 ht).mono ?_
    rintro e w' ⟨rfl, hb⟩
    obtain ⟨q1, q2⟩ := same w' (by rw [e1]; exact ht) hb
    exact ⟨by rw [q1, e1], q2⟩
  by_cases hy : y < 0 ∨ 1099511627776 < y
  · have e1 : hf nw T M y now = 1 := by unfold hf; rw [if_neg (by simp [ht]), if_pos hy]
    refine (hear_range b nw y now w h.cells.1 ht hy).mono ?_
    rintro e w' ⟨rfl, hb⟩
    obtain ⟨q1, q2⟩ := same w' (by rw [e1]; omega) hb
    exact ⟨by rw [q1, e1], q2⟩
  by_cases hl : 200 < (M.length : Int) + lo T y
  · have e1 : hf nw T M y now = 4 := by unfold hf; rw [if_neg (by simp [ht]), if_neg hy, if_pos hl]
    refine (hear_full b mb ag tr nw T y now M gv G w h hI ht (by omega) (by omega) hl).mono ?_
    rintro e w' ⟨rfl, hb⟩
    obtain ⟨q1, q2⟩ := same w' (by rw [e1]; omega) hb
    exact ⟨by rw [q1, e1], q2⟩
  have e1 : hf nw T M y now = 0 := by unfold hf; rw [if_neg (by simp [ht]), if_neg hy, if_neg hl]
  have eN : hN nw T M y now = now := by unfold hN; rw [if_pos e1]
  by_cases hT : T < y
  · have eB : hB nw T M y now = true := by unfold hB hx; simp [e1, hT]
    have eU : hU nw T M y now = y := by unfold hU GM.hT; rw [if_pos e1, if_pos hT]
    have eL : hL nw T M y now = M ++ fresh T (lo T y).toNat := by unfold hL hM; rw [if_pos e1, if_pos hT]
    refine (hear_rise b mb ag tr nw T y now M gv G w h hI ht (by omega) (by omega) (by omega) hT).mono ?_
    rintro e w' ⟨rfl, h1, h2⟩
    rw [eB, e1, eN, eU, eL]
    exact ⟨rfl, h1, h2⟩
  · have eB : hB nw T M y now = has M y := by unfold hB hx; simp [e1, hT]
    have eU : hU nw T M y now = T := by unfold hU GM.hT; rw [if_pos e1, if_neg hT]
    have eL : hL nw T M y now = M.filter fun i => decide (i.n ≠ y) := by unfold hL hM; rw [if_pos e1, if_neg hT]
    refine (hear_old b mb ag tr nw T y now M gv G w h hI ht (by omega) (by omega) hT).mono ?_
    rintro e w' ⟨rfl, h1, h2⟩
    rw [eB, e1, eN, eU, eL]
    exact ⟨rfl, h1, h2⟩

end Go.Proofs.YtijfocggdjjnjaiGreatDoor.Gaps
