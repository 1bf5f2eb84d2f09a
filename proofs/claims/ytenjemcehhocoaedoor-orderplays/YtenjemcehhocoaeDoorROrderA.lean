/-
  The reference's Order in memory, and what its methods time and at return. They change nothing that was there.
-/
import Derived.Test.YtenjemcehhocoaeDoorOrderE
import Derived.Test.YtenjemcehhocoaeDoorRPack
import Derived.LoopTactic
namespace Go.Proofs.YtenjemcehhocoaeDoor.ROrder
open Go.ChangeShapes Go.WideShapes Go.ChangeAt Go.RowKit Go.Proofs.YtenjemcehhocoaeDoor.PM Go.Proofs.YtenjemcehhocoaeDoor.Mem Go.Proofs.YtenjemcehhocoaeDoor.Pack Go.Proofs.YtenjemcehhocoaeDoor.OM Go.Proofs.YtenjemcehhocoaeDoor.Order
set_option linter.unusedVariables false

theorem infoKT : (Tryd.prog.info? 66).map (fun i => (i.zero, i.size, i.bytes)) = some (some (.agg #[.int .i64 0, .bool false, .int .i64 0, .int .i64 0, .int .i64 0, .int .i64 0, .bool false, .slice none 0 0, .int .i64 0]), 9, 88) := by kernel_rfl
/-- the Bodies are slices -/
def Slices (M : Its) : Prop := ∀ i ∈ M, ∃ a m c, i.p.bv = .slice a m c
theorem Slices.itm {M : Its} (h : Slices M) (y : Int) : ∃ a m c, (itm M y).p.bv = .slice a m c := by
  by_cases c : has M y = true
  · exact h _ (itm_has c).1
  · rw [itm_no (by simpa using c)]
    exact ⟨none, 0, 0, rfl⟩
theorem Slices.app {M : Its} (h : Slices M) {x : Kp} (hx : ∃ a m c, x.p.bv = .slice a m c) : Slices (M ++ [x]) := by
  intro i hi
  rcases List.mem_append.1 hi with hi | hi
  · exact h i hi
  · simp only [List.mem_singleton] at hi
    subst hi
    exact hx
theorem Slices.sub {M N : Its} (h : Slices M) (hs : ∀ i ∈ N, i ∈ M) : Slices N := fun i hi => h i (hs i hi)
theorem c9_one {i : Kp} (h : ∃ a m c, i.p.bv = .slice a m c) : ∀ u ∈ c9 i, u.oneCell' = true := by
  obtain ⟨a, m, c, e⟩ := h
  intro u hu
  simp only [c9, e, List.mem_cons, List.not_mem_nil, or_false] at hu
  rcases hu with rfl | rfl | rfl | rfl | rfl | rfl | rfl | rfl | rfl <;> rfl
theorem flat9_one {M : Its} (h : Slices M) : ∀ u ∈ flat c9 M, u.oneCell' = true := by
  intro u hu
  obtain ⟨i, hi, hu⟩ := List.mem_flatMap.1 hu
  exact c9_one (h i hi) u hu

/-- the reference's Order in memory: v the row of what is kept -/
structure RefAt (w : World) (base b : Nat) (wt nw nx : Int) (M : Its) (v : Value) : Prop where
  box : w.heap[b]? = some (.cells #[.int .i64 wt, .int .i64 nw, .int .i64 nx, v] 33 (0, 0))
  row : w.ownsRow base 66 9 v M.length (flat c9 M)
theorem RefAt.cells {w : World} {base b : Nat} {wt nw nx : Int} {M : Its} {v : Value} (h : RefAt w base b wt nw nx M v) :
    w.cell? ⟨b, 0, none⟩ = some (.int .i64 wt) ∧ w.cell? ⟨b, 1, none⟩ = some (.int .i64 nw) ∧ w.cell? ⟨b, 2, none⟩ = some (.int .i64 nx) ∧ w.cell? ⟨b, 3, none⟩ = some v := cells4 h.box
theorem RefAt.only {w w' : World} {base b : Nat} {wt nw nx : Int} {M : Its} {v : Value} {bs : List Nat} (h : RefAt w base b wt nw nx M v) (ho : Only bs w w') (hb : b ∉ bs) (hv : ∀ k, v.ownBlock = some k → k ∉ bs) : RefAt w' base b wt nw nx M v :=
  ⟨ho.block h.box hb, ho.owns h.row hv⟩
theorem RefAt.below {w w' : World} {base b : Nat} {wt nw nx : Int} {M : Its} {v : Value} (h : RefAt w base b wt nw nx M v) (hb : Below w.heap.size w w') : RefAt w' base b wt nw nx M v :=
  h.only (Only.of_below hb []) (by simp) (by simp)
theorem RefAt.alloc {w : World} {base b : Nat} {wt nw nx : Int} {M : Its} {v : Value} (h : RefAt w base b wt nw nx M v) (O : Obj) : RefAt (w.alloc O) base b wt nw nx M v := h.below ((Below.refl _ _).alloc (Nat.le_refl _) O)
theorem row_block {w : World} {base e size n g : Nat} {v : Value} {xs : List Value} (h : w.ownsRow base e size v n xs) (hg : v.ownBlock = some g) : ∃ cs, w.heap[g]? = some (.cells cs e (0, 0)) := by
  rcases h.2 with ⟨rfl, _⟩ | ⟨g', cap, cur, rfl, _, hb, _⟩
  · simp [Value.ownBlock] at hg
  · simp [Value.ownBlock] at hg
    subst hg
    exact ⟨cur, hb⟩
theorem RefAt.ne {w : World} {base b : Nat} {wt nw nx : Int} {M : Its} {v : Value} (h : RefAt w base b wt nw nx M v) : ∀ k, v.ownBlock = some k → k ≠ b := by
  intro k hk e
  obtain ⟨cs, hc⟩ := row_block h.row hk
  rw [e, h.box] at hc
  simp at hc
/-- a number of its block is written -/
theorem RefAt.set {w : World} {base b : Nat} {wt nw nx nw' nx' : Int} {M : Its} {v : Value} (h : RefAt w base b wt nw nx M v) (j : Nat) (u : Value) (he : (#[.int .i64 wt, .int .i64 nw, .int .i64 nx, v] : Array Value).setIfInBounds j u = #[.int .i64 wt, .int .i64 nw', .int .i64 nx', v]) : RefAt (w.setCell ⟨b, j, none⟩ u) base b wt nw' nx' M v := by
  have hne := h.ne
  have ho : Only [b] w (w.setCell ⟨b, j, none⟩ u) := (Only.refl _ _).setCell (by simp) _
  refine ⟨?_, ho.owns h.row (fun k hk => by simp; exact hne k hk)⟩
  have := setb h.box j u
  rw [he] at this
  exact this

theorem rlong_calls (y : Int) (w : World) : Calls Tryd.prog 16 #[.int .i64 y] w fun e w' => e = .returned (.bool (decide (0 ≤ y ∧ y ≤ 1099511627776))) ∧ w' = w := by
  by_cases h : 0 ≤ y ∧ y ≤ 1099511627776
  · rw [show decide (0 ≤ y ∧ y ≤ 1099511627776) = true by simpa using h]
    exact RPack.rlong_yes y w h.1 h.2
  · rw [show decide (0 ≤ y ∧ y ≤ 1099511627776) = false by simpa using h]
    exact RPack.rlong_no y w (by omega)
theorem ret_bool {a b : Bool} (h : a = b) : Ending.returned (.bool a) = .returned (.bool b) := by rw [h]
theorem rtime_yes (n : Int) (w : World) (h : 0 ≤ n) (h' : n ≤ 1000000) :
    Calls Tryd.prog 31 #[.int .i64 n] w fun e w' => e = .returned (.bool true) ∧ w' = w := by
  go_enter Tryd.func31, Tryd.ntmps31
  go_wp2
  go_ret
  exact ⟨rfl, rfl⟩
theorem rtime_no (n : Int) (w : World) (h : n < 0 ∨ 1000000 < n) :
    Calls Tryd.prog 31 #[.int .i64 n] w fun e w' => e = .returned (.bool false) ∧ w' = w := by
  by_cases c : n < 0
  · clear h
    go_enter Tryd.func31, Tryd.ntmps31
    go_wp2
    go_ret
    exact ⟨rfl, rfl⟩
  · have c' : 1000000 < n := by omega
    clear h
    go_enter Tryd.func31, Tryd.ntmps31
    go_wp2
    go_ret
    exact ⟨ret_bool (by simp; omega), rfl⟩
theorem time_calls (b : Nat) (nw now : Int) (w : World) (h : w.cell? ⟨b, 1, none⟩ = some (.int .i64 nw)) :
    Calls Tryd.prog 15 #[.pointer (some ⟨b, 0, none⟩), .int .i64 now] w fun e w' => e = .returned (.int .i64 (tf nw now : Nat)) ∧ w' = w := by
  by_cases c : now < 0 ∨ 1000000 < now
  · have e : tf nw now = 1 := by unfold tf; rw [if_pos c]
    rw [e]
    have HC := hidden (fun w => rtime_no now w c)
    clear c e
    go_enter Tryd.func15, Tryd.ntmps15
    go_wp2_with fail
    refine (HC.out _).mono ?_
    rintro e w1 ⟨rfl, rfl⟩
    go_wp2_with fail
    go_ret
    exact ⟨rfl, rfl⟩
  have HC := hidden (fun w => rtime_yes now w (by omega) (by omega))
  by_cases c2 : now < nw
  · have e : tf nw now = 6 := by unfold tf; rw [if_neg c, if_pos c2]
    rw [e]
    clear c e
    go_enter Tryd.func15, Tryd.ntmps15
    go_wp2_with fail
    refine (HC.out _).mono ?_
    rintro e w1 ⟨rfl, rfl⟩
    go_wp2_with fail
    go_ret
    exact ⟨rfl, rfl⟩
  · have e : tf nw now = 0 := by unfold tf; rw [if_neg c, if_neg c2]
    rw [e]
    clear c e
    go_enter Tryd.func15, Tryd.ntmps15
    go_wp2_with fail
    refine (HC.out _).mono ?_
    rintro e w1 ⟨rfl, rfl⟩
    go_wp2_with fail
    go_ret
    exact ⟨rfl, rfl⟩


set_option maxHeartbeats 400000 in
theorem at_nil (b : Nat) (y : Int) (w : World) (h2 : w.cell? ⟨b, 3, none⟩ = some (.slice none 0 0)) :
    Calls Tryd.prog 18 #[.pointer (some ⟨b, 0, none⟩), .int .i64 y] w fun e w' => e = .returned (.int .i64 (-1)) ∧ w' = w := by
  go_enter Tryd.func18, Tryd.ntmps18
  go_wp2_with fail
  refine wp_loop_rounds 1 ?_
  rw [rounds_succ]
  go_wp2_with fail
  go_ret
  exact ⟨rfl, rfl⟩
/-- what at returns: the index of a number, -1 where it is not there -/
def APost (M : Its) (y : Int) (e : Ending) : Prop := (has M y = false ∧ e = .returned (.int .i64 (-1))) ∨ ∃ (j : Nat) (i : Kp), M[j]? = some i ∧ i.n = y ∧ e = .returned (.int .i64 (j : Int))
set_option maxHeartbeats 1000000 in
theorem at_some (b g cap : Nat) (y : Int) (M : Its) (w : World) (h2 : w.cell? ⟨b, 3, none⟩ = some (.slice (some ⟨g, 0, none⟩) M.length cap)) (hc : ∀ j i, M[j]? = some i → w.cell? ⟨g, j * 9, none⟩ = some (.int .i64 i.n)) (hL : M.length ≤ 1000) :
    Calls Tryd.prog 18 #[.pointer (some ⟨b, 0, none⟩), .int .i64 y] w fun e w' => APost M y e ∧ w' = w := by
  have HC := hidden hc
  clear hc
  go_enter Tryd.func18, Tryd.ntmps18
  go_wp2_with fail
  go_loopw [5] (fun i' wr => ∃ k : Nat, k ≤ M.length ∧ i' = .int .i64 k ∧ wr = w ∧ Hid (∀ (j : Nat) (i : Kp), j < k → M[j]? = some i → i.n ≠ y)) (fun i' _ => M.length - (intOf i').toNat)
  case atStart => exact ⟨0, Nat.zero_le _, rfl, rfl, fun j i hj => absurd hj (by omega)⟩
  case round =>
    obtain ⟨k, hk, rfl, rfl, HN⟩ := hrel
    by_cases hlt : k < M.length
    · obtain ⟨i, hi⟩ : ∃ i, M[k]? = some i := ⟨_, List.getElem?_eq_getElem hlt⟩
      have ck := HC.out k i hi
      have HI := hidden hi
      clear hi
      obtain ⟨x, hx⟩ : ∃ x, i.n = x := ⟨_, rfl⟩
      rw [hx] at ck
      have HX := hidden hx
      clear hx
      by_cases hxy : x = y
      · have d0 : (x == y) = true := by simpa using hxy
        have HXY := hidden hxy
        clear hxy
        go_wp2_with fail
        go_ret
        exact ⟨.inr ⟨k, i, HI.out, HX.out.trans HXY.out, rfl⟩, rfl⟩
      · have d0 : (x == y) = false := by simpa using hxy
        have HXY := hidden hxy
        clear hxy
        go_wp2_with fail
        go_roundw
        case rel =>
          refine ⟨k + 1, by omega, by go_num, by first | rfl | trivial, fun j i' hj hj' => ?_⟩
          by_cases e : j = k
          · subst e
            rw [HI.out] at hj'
            cases hj'
            rw [HX.out]
            exact HXY.out
          · exact HN.out j i' (by omega) hj'
        case measure => simp [intOf]; omega
    · go_wp2_with fail
      go_ret
      refine ⟨.inl ⟨no_has fun i hi e => ?_, rfl⟩, rfl⟩
      obtain ⟨j, hj, e'⟩ := List.mem_iff_getElem.1 hi
      exact HN.out j i (by omega) (by rw [List.getElem?_eq_getElem hj, e']) e
theorem at_calls2 (base b : Nat) (wt nw nx y : Int) (M : Its) (v : Value) (w : World) (h : RefAt w base b wt nw nx M v) (hL : M.length ≤ 1000) :
    Calls Tryd.prog 18 #[.pointer (some ⟨b, 0, none⟩), .int .i64 y] w fun e w' => APost M y e ∧ w' = w := by
  obtain ⟨c0, c1, c2, c3⟩ := h.cells
  rcases row_form h.row with ⟨rfl, rfl⟩ | ⟨g, c, rfl, _⟩
  · refine (at_nil b y w c3).mono ?_
    rintro e w' ⟨rfl, rfl⟩
    exact ⟨.inl ⟨rfl, rfl⟩, rfl⟩
  · exact at_some b g c y M w c3 (fun j i hj => (row_cell c9_len h.row hj 0 (by omega)).trans rfl) hL
/-- the number is not there -/
theorem at_no (base b : Nat) (wt nw nx y : Int) (M : Its) (v : Value) (w : World) (h : RefAt w base b wt nw nx M v) (hL : M.length ≤ 1000) (hh : has M y = false) :
    Calls Tryd.prog 18 #[.pointer (some ⟨b, 0, none⟩), .int .i64 y] w fun e w' => e = .returned (.int .i64 (-1)) ∧ w' = w := by
  refine (at_calls2 base b wt nw nx y M v w h hL).mono ?_
  rintro e w' ⟨hp, rfl⟩
  rcases hp with ⟨_, h⟩ | ⟨j, i, hj, hi, _⟩
  · exact ⟨h, rfl⟩
  · exact absurd hi (has_no hh i (List.mem_of_getElem? hj))
/-- it is there -/
theorem at_yes (base b : Nat) (wt nw nx y : Int) (M : Its) (v : Value) (w : World) (h : RefAt w base b wt nw nx M v) (hL : M.length ≤ 1000) (hh : has M y = true) :
    Calls Tryd.prog 18 #[.pointer (some ⟨b, 0, none⟩), .int .i64 y] w fun e w' => ∃ (j : Nat) (i : Kp), e = .returned (.int .i64 (j : Int)) ∧ w' = w ∧ M[j]? = some i ∧ i.n = y := by
  refine (at_calls2 base b wt nw nx y M v w h hL).mono ?_
  rintro e w' ⟨hp, rfl⟩
  rcases hp with ⟨h, _⟩ | ⟨j, i, hj, hi, rfl⟩
  · rw [hh] at h; cases h
  · exact ⟨j, i, rfl, rfl, hj, hi⟩
end Go.Proofs.YtenjemcehhocoaeDoor.ROrder
