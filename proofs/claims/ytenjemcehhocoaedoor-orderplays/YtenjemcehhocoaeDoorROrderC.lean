/-
  What the reference's Order's methods Push and Gone return, whatever they are given, and what they leave in memory. Their condition: what is kept is such as it may be.
-/
import Derived.Test.YtenjemcehhocoaeDoorROrderB
namespace Go.Proofs.YtenjemcehhocoaeDoor.ROrder
open Go.ChangeShapes Go.WideShapes Go.ChangeAt Go.RowKit Go.Proofs.YtenjemcehhocoaeDoor.PM Go.Proofs.YtenjemcehhocoaeDoor.Mem Go.Proofs.YtenjemcehhocoaeDoor.Pack Go.Proofs.YtenjemcehhocoaeDoor.OM Go.Proofs.YtenjemcehhocoaeDoor.Order
set_option linter.unusedVariables false

theorem rpush_calls (base b : Nat) (wt nw nx y now s t l q : Int) (st : Bool) (a : Option Addr) (m cap : Nat) (L : List Nat) (M : Its) (v : Value) (w : World) (h : RefAt w base b wt nw nx M v) (hI : OM.Inv nw nx M) (hS : Slices M) (hbase : base ≤ w.heap.size) :
    Calls Tryd.prog 6 #[.pointer (some ⟨b, 0, none⟩), .int .i64 y, .agg #[.int .i64 s, .int .i64 t, .int .i64 l, .int .i64 q, .bool st, .slice a m cap], .int .i64 now] w fun e w' => e = .returned (.tuple #[.bool (px nw nx y now M (fault s t l q m)), .int .i64 (pf nw nx y now (fault s t l q m) : Nat)]) ∧
      NSt w w' base b wt (pW nw nx y now (fault s t l q m)) (pX nw nx y now (fault s t l q m)) (pM nw nx y now M (fault s t l q m) ⟨s, t, l, q, st, L, .slice a m cap⟩) v := by
  have same : ∀ w', pf nw nx y now (fault s t l q m) ≠ 0 → Below w.heap.size w w' → NSt w w' base b wt (pW nw nx y now (fault s t l q m)) (pX nw nx y now (fault s t l q m)) (pM nw nx y now M (fault s t l q m) ⟨s, t, l, q, st, L, .slice a m cap⟩) v := by
    intro w' hx hb
    refine ⟨v, ?_, Only.of_below hb _⟩
    unfold pW pX pM px
    simp only [hx, decide_false, Bool.false_and, if_false]
    exact h.below hb
  have hpx : pf nw nx y now (fault s t l q m) ≠ 0 → px nw nx y now M (fault s t l q m) = false := by
    intro hx
    simp [px, hx]
  by_cases ht : tf nw now = 0
  case neg =>
    have e1 : pf nw nx y now (fault s t l q m) = tf nw now := by unfold pf; rw [if_pos ht]
    have hn : pf nw nx y now (fault s t l q m) ≠ 0 := by rw [e1]; exact ht
    refine (rpush_time b nw y now s t l q st _ w h.cells.2.1 ht).mono ?_
    rintro e w' ⟨rfl, hb⟩
    exact ⟨by rw [hpx hn, e1], same w' hn hb⟩
  by_cases hy : y < 0 ∨ 1099511627776 < y
  · have e1 : pf nw nx y now (fault s t l q m) = 1 := by unfold pf; rw [if_neg (by omega), if_pos hy]
    have hn : pf nw nx y now (fault s t l q m) ≠ 0 := by omega
    refine (rpush_range b nw y now s t l q st _ w h.cells.2.1 ht hy).mono ?_
    rintro e w' ⟨rfl, hb⟩
    exact ⟨by rw [hpx hn, e1]; rfl, same w' hn hb⟩
  by_cases hc : fault s t l q m = 0
  case neg =>
    have e1 : pf nw nx y now (fault s t l q m) = fault s t l q m := by unfold pf; rw [if_neg (by omega), if_neg hy, if_pos hc]
    have hn : pf nw nx y now (fault s t l q m) ≠ 0 := by omega
    refine (rpush_bad b nw y now s t l q st a m cap w h.cells.2.1 ht (by omega) (by omega) hc).mono ?_
    rintro e w' ⟨rfl, hb⟩
    exact ⟨by rw [hpx hn, e1], same w' hn hb⟩
  by_cases hr : far nx y = true
  · have e1 : pf nw nx y now (fault s t l q m) = 4 := by unfold pf; rw [if_neg (by omega), if_neg hy, if_neg (by omega), if_pos hr]
    have hn : pf nw nx y now (fault s t l q m) ≠ 0 := by omega
    refine (rpush_full base b wt nw nx y now s t l q st a m cap M v w h hI ht (by omega) (by omega) hc hr).mono ?_
    rintro e w' ⟨rfl, hb⟩
    exact ⟨by rw [hpx hn, e1]; rfl, same w' hn hb⟩
  have hr' : far nx y = false := by simpa using hr
  have e1 : pf nw nx y now (fault s t l q m) = 0 := pf_mk ht (by omega) (by omega) hc hr'
  have e2 : px nw nx y now M (fault s t l q m) = kx (fx nx y) y M := by simp [px, e1]
  have e3 : pW nw nx y now (fault s t l q m) = now := by unfold pW; rw [if_pos e1]
  have e4 : pX nw nx y now (fault s t l q m) = fx nx y := by unfold pX; rw [if_pos e1]
  have e5 : pM nw nx y now M (fault s t l q m) ⟨s, t, l, q, st, L, .slice a m cap⟩ = if kx (fx nx y) y M then M ++ [⟨y, false, ⟨s, t, l, q, st, L, .slice a m cap⟩, now⟩] else M := by unfold pM; rw [e2]
  rw [e1, e2, e3, e4, e5]
  by_cases hk : y < fx nx y
  · have ek : kx (fx nx y) y M = false := by simp [kx]; omega
    rw [ek]
    refine (rpush_old base b wt nw nx y now s t l q st a m cap L M v w h hI hS hbase ht (by omega) (by omega) hc hr' hk).mono ?_
    rintro e w' ⟨rfl, hR, ho⟩
    exact ⟨rfl, v, hR, ho.mono (by simp)⟩
  by_cases hh : has M y = true
  · have ek : kx (fx nx y) y M = false := by simp [kx, hh]
    rw [ek]
    refine (rpush_has base b wt nw nx y now s t l q st a m cap L M v w h hI hS hbase ht (by omega) (by omega) hc hr' hh (by omega)).mono ?_
    rintro e w' ⟨rfl, hR, ho⟩
    exact ⟨rfl, v, hR, ho.mono (by simp)⟩
  · have hh' : has M y = false := by simpa using hh
    have ek : kx (fx nx y) y M = true := by simp [kx, hh']; omega
    rw [ek]
    exact rpush_new base b wt nw nx y now s t l q st a m cap L M v w h hI hS hbase ht (by omega) (by omega) hc hr' hh' (by omega)

set_option maxHeartbeats 1000000 in
set_option maxRecDepth 100000 in
theorem rgone_time (b : Nat) (nw y now : Int) (w : World) (h : w.cell? ⟨b, 1, none⟩ = some (.int .i64 nw)) (ht : tf nw now ≠ 0) :
    Calls Tryd.prog 9 #[.pointer (some ⟨b, 0, none⟩), .int .i64 y, .int .i64 now] w fun e w' => e = .returned (.int .i64 (tf nw now : Nat)) ∧ w' = w := by
  have HT := hidden (fun w h => time_calls b nw now w h)
  have HL := hidden (fun w => rlong_calls y w)
  generalize decide (0 ≤ y ∧ y ≤ 1099511627776) = lb at *
  generalize tf nw now = f at *
  have d : ((f : Int) == 0) = false := by simp; omega
  have HC1 := hidden h
  clear ht h
  go_enter Tryd.func9, Tryd.ntmps9
  go_wp2_with fail
  refine (HT.out _ HC1.out).mono ?_
  rintro e w' ⟨rfl, rfl⟩
  go_wp2_with fail
  refine (HL.out _).mono ?_
  rintro e w' ⟨rfl, rfl⟩
  go_wp2_with fail
  go_ret
  exact ⟨rfl, rfl⟩
set_option maxHeartbeats 1000000 in
set_option maxRecDepth 100000 in
theorem rgone_range (b : Nat) (nw y now : Int) (w : World) (h : w.cell? ⟨b, 1, none⟩ = some (.int .i64 nw)) (ht : tf nw now = 0) (hy : y < 0 ∨ 1099511627776 < y) :
    Calls Tryd.prog 9 #[.pointer (some ⟨b, 0, none⟩), .int .i64 y, .int .i64 now] w fun e w' => e = .returned (.int .i64 1) ∧ w' = w := by
  have hT := fun w h => time_calls b nw now w h
  rw [ht] at hT
  have HT := hidden hT
  have HL := hidden (fun w => RPack.rlong_no y w hy)
  have HC1 := hidden h
  clear ht h hT hy
  go_enter Tryd.func9, Tryd.ntmps9
  go_wp2_with fail
  refine (HT.out _ HC1.out).mono ?_
  rintro e w' ⟨rfl, rfl⟩
  go_wp2_with fail
  refine (HL.out _).mono ?_
  rintro e w' ⟨rfl, rfl⟩
  go_wp2_with fail
  go_ret
  exact ⟨rfl, rfl⟩
set_option maxHeartbeats 1000000 in
set_option maxRecDepth 100000 in
theorem rgone_state (base b : Nat) (wt nw y now : Int) (M : Its) (v : Value) (w : World) (h : RefAt w base b wt nw (-1) M v) (ht : tf nw now = 0) (h0 : 0 ≤ y) (h1 : y ≤ 1099511627776) :
    Calls Tryd.prog 9 #[.pointer (some ⟨b, 0, none⟩), .int .i64 y, .int .i64 now] w fun e w' => e = .returned (.int .i64 6) ∧ w' = w := by
  have hT := fun w h => time_calls b nw now w h
  rw [ht] at hT
  have HT := hidden hT
  have HL := hidden (fun w => RPack.rlong_yes y w h0 h1)
  obtain ⟨c0, c1, c2, c3⟩ := h.cells
  clear ht h hT
  go_enter Tryd.func9, Tryd.ntmps9
  go_wp2_with fail
  refine (HT.out _ (by exact c1)).mono ?_
  rintro e w' ⟨rfl, rfl⟩
  go_wp2_with fail
  refine (HL.out _).mono ?_
  rintro e w' ⟨rfl, rfl⟩
  go_wp2_with fail
  go_ret
  exact ⟨rfl, rfl⟩
set_option maxHeartbeats 4000000 in
set_option maxRecDepth 100000 in
theorem rgone_old (base b : Nat) (wt nw nx y now : Int) (M : Its) (v : Value) (w : World) (h : RefAt w base b wt nw nx M v) (hI : OM.Inv nw nx M) (hS : Slices M) (hbase : base ≤ w.heap.size) (ht : tf nw now = 0) (h0 : 0 ≤ y) (h1 : y ≤ 1099511627776) (hn : nx ≠ -1) (hk : y < nx) :
    Calls Tryd.prog 9 #[.pointer (some ⟨b, 0, none⟩), .int .i64 y, .int .i64 now] w fun e w' => e = .returned (.int .i64 0) ∧ RefAt w' base b wt now nx M v ∧ Only [b] w w' := by
  have hT := fun w h => time_calls b nw now w h
  rw [ht] at hT
  have HT := hidden hT
  have HL := hidden (fun w => RPack.rlong_yes y w h0 h1)
  have HR := hidden h
  have x1 := hI.x1
  have x2 := hI.x2
  have hlen : M.length ≤ 200 := hI.len
  have hn0 : 0 ≤ nx := by omega
  obtain ⟨c0, c1, c2, c3⟩ := h.cells
  have f1 := freeb h.box 1
  have HP : Hid (RefAt (w.setCell ⟨b, 1, none⟩ (.int .i64 now)) base b wt now nx M v) := h.set 1 (.int .i64 now) rfl
  have HN : Hid (Only [b] w (w.setCell ⟨b, 1, none⟩ (.int .i64 now))) := (Only.refl _ _).setCell (by simp) _
  clear ht h hT hI hn
  go_enter Tryd.func9, Tryd.ntmps9
  go_wp2_with fail
  refine (HT.out _ (by exact c1)).mono ?_
  rintro e w' ⟨rfl, rfl⟩
  go_wp2_with fail
  refine (HL.out _).mono ?_
  rintro e w2 ⟨rfl, rfl⟩
  go_wp2_with fail
  go_ret
  exact ⟨rfl, HP.out, HN.out⟩
set_option maxHeartbeats 4000000 in
set_option maxRecDepth 100000 in
theorem rgone_far (base b : Nat) (wt nw nx y now : Int) (M : Its) (v : Value) (w : World) (h : RefAt w base b wt nw nx M v) (hI : OM.Inv nw nx M) (hS : Slices M) (hbase : base ≤ w.heap.size) (ht : tf nw now = 0) (h0 : 0 ≤ y) (h1 : y ≤ 1099511627776) (hn : nx ≠ -1) (hk : nx + 200 ≤ y) :
    Calls Tryd.prog 9 #[.pointer (some ⟨b, 0, none⟩), .int .i64 y, .int .i64 now] w fun e w' => e = .returned (.int .i64 0) ∧ RefAt w' base b wt now nx M v ∧ Only [b] w w' := by
  have hT := fun w h => time_calls b nw now w h
  rw [ht] at hT
  have HT := hidden hT
  have HL := hidden (fun w => RPack.rlong_yes y w h0 h1)
  have HR := hidden h
  have x1 := hI.x1
  have x2 := hI.x2
  have hlen : M.length ≤ 200 := hI.len
  have hn0 : 0 ≤ nx := by omega
  obtain ⟨c0, c1, c2, c3⟩ := h.cells
  have f1 := freeb h.box 1
  have HP : Hid (RefAt (w.setCell ⟨b, 1, none⟩ (.int .i64 now)) base b wt now nx M v) := h.set 1 (.int .i64 now) rfl
  have HN : Hid (Only [b] w (w.setCell ⟨b, 1, none⟩ (.int .i64 now))) := (Only.refl _ _).setCell (by simp) _
  have hk2 : ¬ y < nx := by omega
  clear ht h hT hI hn
  go_enter Tryd.func9, Tryd.ntmps9
  go_wp2_with fail
  refine (HT.out _ (by exact c1)).mono ?_
  rintro e w' ⟨rfl, rfl⟩
  go_wp2_with fail
  refine (HL.out _).mono ?_
  rintro e w2 ⟨rfl, rfl⟩
  go_wp2_with fail
  go_ret
  exact ⟨rfl, HP.out, HN.out⟩
set_option maxHeartbeats 4000000 in
set_option maxRecDepth 100000 in
theorem rgone_has (base b : Nat) (wt nw nx y now : Int) (M : Its) (v : Value) (w : World) (h : RefAt w base b wt nw nx M v) (hI : OM.Inv nw nx M) (hS : Slices M) (hbase : base ≤ w.heap.size) (ht : tf nw now = 0) (h0 : 0 ≤ y) (h1 : y ≤ 1099511627776) (hn : nx ≠ -1) (hk : nx ≤ y) (hk2 : y < nx + 200) (hh : has M y = true) :
    Calls Tryd.prog 9 #[.pointer (some ⟨b, 0, none⟩), .int .i64 y, .int .i64 now] w fun e w' => e = .returned (.int .i64 0) ∧ RefAt w' base b wt now nx M v ∧ Only [b] w w' := by
  have hT := fun w h => time_calls b nw now w h
  rw [ht] at hT
  have HT := hidden hT
  have HL := hidden (fun w => RPack.rlong_yes y w h0 h1)
  have HR := hidden h
  have x1 := hI.x1
  have x2 := hI.x2
  have hlen : M.length ≤ 200 := hI.len
  have hn0 : 0 ≤ nx := by omega
  obtain ⟨c0, c1, c2, c3⟩ := h.cells
  have f1 := freeb h.box 1
  have HP : Hid (RefAt (w.setCell ⟨b, 1, none⟩ (.int .i64 now)) base b wt now nx M v) := h.set 1 (.int .i64 now) rfl
  have HN : Hid (Only [b] w (w.setCell ⟨b, 1, none⟩ (.int .i64 now))) := (Only.refl _ _).setCell (by simp) _
  have HAt := hidden (fun W (hW : RefAt W base b wt now nx M v) => at_yes base b wt now nx y M v W hW (by omega) hh)
  clear hh
  clear ht h hT hI hn
  go_enter Tryd.func9, Tryd.ntmps9
  go_wp2_with fail
  refine (HT.out _ (by exact c1)).mono ?_
  rintro e w' ⟨rfl, rfl⟩
  go_wp2_with fail
  refine (HL.out _).mono ?_
  rintro e w2 ⟨rfl, rfl⟩
  go_wp2_with fail
  refine (HAt.out _ HP.out).mono ?_
  rintro e w6 ⟨j, i, rfl, rfl, _, _⟩
  have hj0 : (0 : Int) ≤ (j : Int) := by omega
  go_wp2_with fail
  go_ret
  exact ⟨rfl, HP.out, HN.out⟩
set_option maxHeartbeats 4000000 in
set_option maxRecDepth 100000 in
theorem rgone_new (base b : Nat) (wt nw nx y now : Int) (M : Its) (v : Value) (w : World) (h : RefAt w base b wt nw nx M v) (hI : OM.Inv nw nx M) (hS : Slices M) (hbase : base ≤ w.heap.size) (ht : tf nw now = 0) (h0 : 0 ≤ y) (h1 : y ≤ 1099511627776) (hn : nx ≠ -1) (hk : nx ≤ y) (hk2 : y < nx + 200) (hh : has M y = false) :
    Calls Tryd.prog 9 #[.pointer (some ⟨b, 0, none⟩), .int .i64 y, .int .i64 now] w fun e w' => e = .returned (.int .i64 0) ∧ NSt w w' base b wt now nx (M ++ [gone y now]) v := by
  have hT := fun w h => time_calls b nw now w h
  rw [ht] at hT
  have HT := hidden hT
  have HL := hidden (fun w => RPack.rlong_yes y w h0 h1)
  have HR := hidden h
  have x1 := hI.x1
  have x2 := hI.x2
  have hlen : M.length ≤ 200 := hI.len
  have hn0 : 0 ≤ nx := by omega
  obtain ⟨c0, c1, c2, c3⟩ := h.cells
  have f1 := freeb h.box 1
  have HP : Hid (RefAt (w.setCell ⟨b, 1, none⟩ (.int .i64 now)) base b wt now nx M v) := h.set 1 (.int .i64 now) rfl
  have HN : Hid (Only [b] w (w.setCell ⟨b, 1, none⟩ (.int .i64 now))) := (Only.refl _ _).setCell (by simp) _
  obtain ⟨i0, hii, hz0, hz1, hz2⟩ := info_parts infoKT
  have HAt := hidden (fun W (hW : RefAt W base b wt now nx M v) => at_no base b wt now nx y M v W hW (by omega) hh)
  obtain ⟨M2, hM2⟩ : ∃ M2 : Its, M ++ [gone y now] = M2 := ⟨_, rfl⟩
  rw [hM2]
  have HM2 := hidden hM2
  have hlt : b < w.heap.size := lt_of_block h.box
  clear hh hM2 hS
  clear ht h hT hI hn
  go_enter Tryd.func9, Tryd.ntmps9
  go_wp2_with fail
  refine (HT.out _ (by exact c1)).mono ?_
  rintro e w' ⟨rfl, rfl⟩
  go_wp2_with fail
  refine (HL.out _).mono ?_
  rintro e w2 ⟨rfl, rfl⟩
  go_wp2_with fail
  refine (HAt.out _ HP.out).mono ?_
  rintro e w6 ⟨rfl, hw6⟩
  rw [← hw6] at HP HN
  clear hw6 HAt HT HL c0 c1 c2 c3 f1
  obtain ⟨p0, p1, p2, p3⟩ := HP.out.cells
  have hs6 : w2.heap.size ≤ w6.heap.size := HN.out.2.2.2.1
  go_wp2_with (at_builtin; refine wpList_append_lies _ rfl _ _ 31 rfl base 66 i0 _ 9 88 Tryd.underlying31 hii hz0 hz1 hz2 rfl (by decide) _ M.length (flat c9 M) rfl (HP.out.row.alloc _) ⟨w6.heap.size, 0, none⟩ 1 1 [.int .i64 y, .bool true, .int .i64 0, .int .i64 0, .int .i64 0, .int .i64 0, .bool false, .slice none 0 0, .int .i64 now] rfl rfl (World.news_of_block (cs := #[.int .i64 y, .bool true, .int .i64 0, .int .i64 0, .int .i64 0, .int .i64 0, .bool false, .slice none 0 0, .int .i64 now]) (t := 66) (fr := (0, 0)) (heap_alloc_new w6 _)) ?c2 (by omega) ?b1 ?b2 ?b3 (w6.heap.size + 1) (by simp) ?next)
  case c2 => intro u hu'; simp at hu'; rcases hu' with rfl | rfl | rfl | rfl | rfl | rfl | rfl | rfl | rfl <;> rfl
  case b1 => unfold maxLen; omega
  case b2 => omega
  case b3 => simp; omega
  case next =>
    intro gg c3 w4 hown hgrow hat hltg
    have hb4 : w4.heap[b]? = some (.cells #[.int .i64 wt, .int .i64 now, .int .i64 nx, v] 33 (0, 0)) := (hgrow.block b (by simp; omega) (fun e => HP.out.ne b e.symm rfl)).trans ((Below.heap_alloc _ _ _ (by omega)).trans HP.out.box)
    obtain ⟨q0, q1, q2, q3⟩ := cells4 hb4
    have fq := freeb hb4 3
    have HF : Hid (NSt w2 (w4.setCell ⟨b, 3, none⟩ (.slice (some ⟨gg, 0, none⟩) (M.length + 1) c3)) base b wt now nx M2 v) := by
      have ho : Only (b :: v.ownBlock.toList) w2 w4 := past (cs := v.ownBlock.toList) (HN.out.mono (by simp)) (((Only.refl v.ownBlock.toList w6).alloc _).grown hgrow (by simp)) (by intro k hk; exact .inl (by simp [hk]))
      have hgb : gg ≠ b := by
        intro e
        obtain ⟨cs, hc⟩ := row_block hown rfl
        rw [e, hb4] at hc
        simp at hc
      refine hidden ⟨.slice (some ⟨gg, 0, none⟩) (M.length + 1) c3, ⟨?_, ?_⟩, ho.setCell (by simp) _⟩
      · exact setb hb4 3 (.slice (some ⟨gg, 0, none⟩) (M.length + 1) c3)
      · rw [← HM2.out, flat_app, flat_one, List.length_append]
        refine ((Only.refl [b] w4).setCell (by simp) _).owns hown ?_
        intro k hk hc
        simp [Value.ownBlock] at hk hc
        exact hgb (hk.trans hc)
    clear hown hgrow hat hltg hb4
    go_wp2_with fail
    go_ret
    exact ⟨rfl, HF.out⟩
/-- Gone, whatever it is given -/
theorem rgone_calls (base b : Nat) (wt nw nx y now : Int) (M : Its) (v : Value) (w : World) (h : RefAt w base b wt nw nx M v) (hI : OM.Inv nw nx M) (hS : Slices M) (hbase : base ≤ w.heap.size) :
    Calls Tryd.prog 9 #[.pointer (some ⟨b, 0, none⟩), .int .i64 y, .int .i64 now] w fun e w' => e = .returned (.int .i64 (gf nw nx y now : Nat)) ∧ NSt w w' base b wt (gW nw nx y now) nx (gM nw nx y now M) v := by
  have same : gf nw nx y now ≠ 0 → NSt w w base b wt (gW nw nx y now) nx (gM nw nx y now M) v := by
    intro hx
    refine ⟨v, ?_, Only.refl _ _⟩
    unfold gW gM gx
    simp only [hx, decide_false, Bool.false_and, if_false]
    exact h
  by_cases ht : tf nw now = 0
  case neg =>
    have e1 : gf nw nx y now = tf nw now := by unfold gf; rw [if_pos ht]
    refine (rgone_time b nw y now w h.cells.2.1 ht).mono ?_
    rintro e w' ⟨rfl, rfl⟩
    exact ⟨by rw [e1], same (by rw [e1]; exact ht)⟩
  by_cases hy : y < 0 ∨ 1099511627776 < y
  · have e1 : gf nw nx y now = 1 := by unfold gf; rw [if_neg (by omega), if_pos hy]
    refine (rgone_range b nw y now w h.cells.2.1 ht hy).mono ?_
    rintro e w' ⟨rfl, rfl⟩
    exact ⟨by rw [e1]; rfl, same (by omega)⟩
  by_cases hn : nx = -1
  · have e1 : gf nw nx y now = 6 := by unfold gf; rw [if_neg (by omega), if_neg hy, if_pos hn]
    have h' := h
    rw [hn] at h'
    refine (rgone_state base b wt nw y now M v w h' ht (by omega) (by omega)).mono ?_
    rintro e w' ⟨rfl, rfl⟩
    exact ⟨by rw [e1]; rfl, same (by omega)⟩
  have e1 : gf nw nx y now = 0 := by unfold gf; rw [if_neg (by omega), if_neg hy, if_neg hn]
  have e2 : gW nw nx y now = now := by unfold gW; rw [if_pos e1]
  have hx1 := hI.x1
  rw [e1, e2]
  by_cases hk : y < nx
  · have e3 : gM nw nx y now M = M := by
      have : kx nx y M = false := by simp [kx]; omega
      unfold gM gx
      simp [this]
    rw [e3]
    refine (rgone_old base b wt nw nx y now M v w h hI hS hbase ht (by omega) (by omega) hn hk).mono ?_
    rintro e w' ⟨rfl, hR, ho⟩
    exact ⟨rfl, v, hR, ho.mono (by simp)⟩
  by_cases hk2 : nx + 200 ≤ y
  · have e3 : gM nw nx y now M = M := by
      have : far nx y = true := by simp [far, hn]; omega
      unfold gM gx
      simp [this]
    rw [e3]
    refine (rgone_far base b wt nw nx y now M v w h hI hS hbase ht (by omega) (by omega) hn hk2).mono ?_
    rintro e w' ⟨rfl, hR, ho⟩
    exact ⟨rfl, v, hR, ho.mono (by simp)⟩
  by_cases hh : has M y = true
  · have e3 : gM nw nx y now M = M := by
      have : kx nx y M = false := by simp [kx, hh]
      unfold gM gx
      simp [this]
    rw [e3]
    refine (rgone_has base b wt nw nx y now M v w h hI hS hbase ht (by omega) (by omega) hn (by omega) (by omega) hh).mono ?_
    rintro e w' ⟨rfl, hR, ho⟩
    exact ⟨rfl, v, hR, ho.mono (by simp)⟩
  · have hh' : has M y = false := by simpa using hh
    have e3 : gM nw nx y now M = M ++ [gone y now] := by
      have a1 : kx nx y M = true := by simp [kx, hh']; omega
      have a2 : far nx y = false := by simp [far, hn]; omega
      unfold gM gx
      simp [e1, a1, a2]
    rw [e3]
    exact rgone_new base b wt nw nx y now M v w h hI hS hbase ht (by omega) (by omega) hn (by omega) (by omega) hh'
end Go.Proofs.YtenjemcehhocoaeDoor.ROrder
