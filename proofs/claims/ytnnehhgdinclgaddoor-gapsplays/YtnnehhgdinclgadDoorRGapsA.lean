/-
  The reference's Gaps in memory, and what its methods time and Lacks return. They change nothing that was there.
-/
import Derived.Test.YtnnehhgdinclgadDoorGapsI
import Derived.LoopTactic
namespace Go.Proofs.YtnnehhgdinclgadDoor.RGaps
open Go.ChangeShapes Go.WideShapes Go.ChangeAt Go.RowKit Go.Proofs.YtnnehhgdinclgadDoor.Mem Go.Proofs.YtnnehhgdinclgadDoor.GM Go.Proofs.YtnnehhgdinclgadDoor.Gaps
set_option linter.unusedVariables false

theorem infoLK : (Tryd.prog.info? 87).map (fun i => (i.zero, i.size, i.bytes)) = some (some (.agg #[.int .i64 0, .int .i64 0, .int .i64 0]), 3, 24) := by kernel_rfl
/-- one that is lacking, in memory -/
def lkC (x : Lk) : List Value := [.int .i64 x.n, .int .i64 x.t, .int .i64 x.a]
def flat (M : Its) : List Value := M.flatMap lkC
theorem flat_len (M : Its) : (flat M).length = M.length * 3 := by
  induction M with
  | nil => rfl
  | cons i M ih => simp only [flat, List.flatMap_cons, List.length_append, List.length_cons] at ih ⊢; rw [ih]; simp [lkC]; omega
theorem flat_app (M N : Its) : flat (M ++ N) = flat M ++ flat N := by simp [flat]
theorem flat_one (i : Lk) : flat [i] = lkC i := by simp [flat]
theorem flat_get (M : Its) (j : Nat) (i : Lk) (h : M[j]? = some i) (c : Nat) (hc : c < 3) : (flat M)[j * 3 + c]? = (lkC i)[c]? := by
  induction M generalizing j with
  | nil => simp at h
  | cons a M ih =>
    have e : flat (a :: M) = lkC a ++ flat M := by simp [flat]
    rw [e]
    cases j with
    | zero =>
      simp only [List.getElem?_cons_zero, Option.some.injEq] at h
      subst h
      rw [List.getElem?_append_left (by simp [lkC]; omega)]
      simp
    | succ j =>
      simp only [List.getElem?_cons_succ] at h
      rw [List.getElem?_append_right (by simp [lkC]; omega), ← ih j h]
      congr 1
      simp [lkC]
      omega
/-- what the reference keeps, in memory: lv the row of what is lacking, gv of what was given up -/
structure RefAt (w : World) (base b : Nat) (ag tr nw T : Int) (M : Its) (lv : Value) (G : List Int) (gv : Value) : Prop where
  box : w.heap[b]? = some (.cells #[.int .i64 ag, .int .i64 tr, .int .i64 nw, .int .i64 T, lv, gv] 58 (0, 0))
  row : w.ownsRow base 87 3 lv M.length (flat M)
  gave : w.ownsRow base 3 1 gv G.length (ic G)
theorem cells6 {w : World} {b : Nat} {v0 v1 v2 v3 v4 v5 : Value} {t : TypeId} (h : w.heap[b]? = some (.cells #[v0, v1, v2, v3, v4, v5] t (0, 0))) :
    w.cell? ⟨b, 0, none⟩ = some v0 ∧ w.cell? ⟨b, 1, none⟩ = some v1 ∧ w.cell? ⟨b, 2, none⟩ = some v2 ∧ w.cell? ⟨b, 3, none⟩ = some v3 ∧ w.cell? ⟨b, 4, none⟩ = some v4 ∧ w.cell? ⟨b, 5, none⟩ = some v5 := by
  refine ⟨?_, ?_, ?_, ?_, ?_, ?_⟩ <;> simp [World.cell?, h]
theorem setb {w : World} {b : Nat} {cs : Array Value} {t : TypeId} (h : w.heap[b]? = some (.cells cs t (0, 0))) (j : Nat) (u : Value) :
    (w.setCell ⟨b, j, none⟩ u).heap[b]? = some (.cells (cs.setIfInBounds j u) t (0, 0)) := by
  exact heap_setCell_same w b j cs t u h
theorem free6 {w : World} {b : Nat} {cs : Array Value} {t : TypeId} (h : w.heap[b]? = some (.cells cs t (0, 0))) (j : Nat) : w.frozen? ⟨b, j, none⟩ = false := by
  simp [World.frozen?, h]
/-- a row's block -/
theorem row_block {w : World} {base e size n g : Nat} {v : Value} {xs : List Value} (h : w.ownsRow base e size v n xs) (hg : v.ownBlock = some g) : ∃ cs, w.heap[g]? = some (.cells cs e (0, 0)) := by
  rcases h.2 with ⟨rfl, _⟩ | ⟨g', cap, cur, rfl, _, hb, _⟩
  · simp [Value.ownBlock] at hg
  · simp [Value.ownBlock] at hg
    subst hg
    exact ⟨cur, hb⟩
def rblks (b : Nat) (lv gv : Value) : List Nat := b :: (lv.ownBlock.toList ++ gv.ownBlock.toList)
theorem RefAt.only {w w' : World} {base b : Nat} {ag tr nw T : Int} {M : Its} {lv gv : Value} {G : List Int} {bs : List Nat} (h : RefAt w base b ag tr nw T M lv G gv) (ho : Only bs w w') (hb : ∀ k ∈ rblks b lv gv, k ∉ bs) : RefAt w' base b ag tr nw T M lv G gv :=
  ⟨ho.block h.box (hb b (by simp [rblks])), ho.owns h.row (fun k hk => hb k (by simp [rblks, hk])), ho.owns h.gave (fun k hk => hb k (by simp [rblks, hk]))⟩
theorem RefAt.below {w w' : World} {base b : Nat} {ag tr nw T : Int} {M : Its} {lv gv : Value} {G : List Int} (h : RefAt w base b ag tr nw T M lv G gv) (hb : Below w.heap.size w w') : RefAt w' base b ag tr nw T M lv G gv :=
  h.only (Only.of_below hb []) (by simp)
/-- its blocks are apart -/
theorem RefAt.ne {w : World} {base b : Nat} {ag tr nw T : Int} {M : Its} {lv gv : Value} {G : List Int} (h : RefAt w base b ag tr nw T M lv G gv) : (∀ k, lv.ownBlock = some k → k ≠ b ∧ gv.ownBlock ≠ some k) ∧ ∀ k, gv.ownBlock = some k → k ≠ b := by
  have hb := h.box
  refine ⟨fun k hk => ⟨?_, ?_⟩, fun k hk => ?_⟩
  · obtain ⟨cs, hc⟩ := row_block h.row hk
    intro e
    rw [e, hb] at hc
    simp at hc
  · obtain ⟨cs, hc⟩ := row_block h.row hk
    intro e
    obtain ⟨ds, hd⟩ := row_block h.gave e
    rw [hc] at hd
    simp at hd
  · obtain ⟨cs, hc⟩ := row_block h.gave hk
    intro e
    rw [e, hb] at hc
    simp at hc
theorem RefAt.lt {w : World} {base b : Nat} {ag tr nw T : Int} {M : Its} {lv gv : Value} {G : List Int} (h : RefAt w base b ag tr nw T M lv G gv) : ∀ k ∈ rblks b lv gv, k < w.heap.size := by
  intro k hk
  simp only [rblks, List.mem_cons, List.mem_append, Option.mem_toList] at hk
  rcases hk with rfl | hk | hk
  · exact lt_of_block h.box
  · exact (h.row.lt k hk).2
  · exact (h.gave.lt k hk).2
/-- a number of its block is written -/
theorem RefAt.set {w : World} {base b : Nat} {ag tr nw T nw' T' : Int} {M : Its} {lv gv : Value} {G : List Int} (h : RefAt w base b ag tr nw T M lv G gv) (j : Nat) (u : Value) (he : (#[.int .i64 ag, .int .i64 tr, .int .i64 nw, .int .i64 T, lv, gv] : Array Value).setIfInBounds j u = #[.int .i64 ag, .int .i64 tr, .int .i64 nw', .int .i64 T', lv, gv]) : RefAt (w.setCell ⟨b, j, none⟩ u) base b ag tr nw' T' M lv G gv := by
  have hne := h.ne
  have ho : Only [b] w (w.setCell ⟨b, j, none⟩ u) := (Only.refl _ _).setCell (by simp) _
  refine ⟨?_, ho.owns h.row (fun k hk => by simp; exact (hne.1 k hk).1), ho.owns h.gave (fun k hk => by simp; exact hne.2 k hk)⟩
  have := setb h.box j u
  rw [he] at this
  exact this
theorem ref_form {w : World} {base : Nat} {M : Its} {v : Value} (h : w.ownsRow base 87 3 v M.length (flat M)) : ∃ a c, v = .slice a M.length c ∧ (0 < M.length → ∃ g, a = some ⟨g, 0, none⟩ ∧ base ≤ g) := by
  rcases h.2 with ⟨h, h0⟩ | ⟨g, cap, cur, h, hg, _⟩
  · exact ⟨none, 0, by rw [h, h0], fun q => by omega⟩
  · exact ⟨_, cap, h, fun _ => ⟨g, rfl, hg⟩⟩
theorem ref_cell {w : World} {base g c : Nat} {M : Its} (h : w.ownsRow base 87 3 (.slice (some ⟨g, 0, none⟩) M.length c) M.length (flat M)) {j : Nat} {i : Lk} (hj : M[j]? = some i) : w.cell? ⟨g, j * 3, none⟩ = some (.int .i64 i.n) ∧ w.cell? ⟨g, j * 3 + 1, none⟩ = some (.int .i64 i.t) ∧ w.cell? ⟨g, j * 3 + 2, none⟩ = some (.int .i64 i.a) := by
  have hlt : j < M.length := (List.getElem?_eq_some_iff.1 hj).1
  refine ⟨?_, ?_, ?_⟩
  · exact (h.cellAt (j * 3) (by omega)).trans (flat_get M j i hj 0 (by omega))
  · exact (h.cellAt (j * 3 + 1) (by omega)).trans (flat_get M j i hj 1 (by omega))
  · exact (h.cellAt (j * 3 + 2) (by omega)).trans (flat_get M j i hj 2 (by omega))

theorem ret_bool {a b : Bool} (h : a = b) : Ending.returned (.bool a) = .returned (.bool b) := by rw [h]
theorem rlong_yes (n : Int) (w : World) (h : 0 ≤ n) (h' : n ≤ 1099511627776) :
    Calls Tryd.prog 33 #[.int .i64 n] w fun e w' => e = .returned (.bool true) ∧ w' = w := by
  go_enter Tryd.func33, Tryd.ntmps33
  go_wp2
  go_ret
  exact ⟨rfl, rfl⟩
theorem rlong_no (n : Int) (w : World) (h : n < 0 ∨ 1099511627776 < n) :
    Calls Tryd.prog 33 #[.int .i64 n] w fun e w' => e = .returned (.bool false) ∧ w' = w := by
  by_cases c : n < 0
  · clear h
    go_enter Tryd.func33, Tryd.ntmps33
    go_wp2
    go_ret
    exact ⟨rfl, rfl⟩
  · have c' : 1099511627776 < n := by omega
    clear h
    go_enter Tryd.func33, Tryd.ntmps33
    go_wp2
    go_ret
    exact ⟨ret_bool (by simp; omega), rfl⟩
def longB (y : Int) : Bool := decide (0 ≤ y ∧ y ≤ 1099511627776)
theorem rlong_calls (n : Int) (w : World) : Calls Tryd.prog 33 #[.int .i64 n] w fun e w' => e = .returned (.bool (longB n)) ∧ w' = w := by
  by_cases h : 0 ≤ n ∧ n ≤ 1099511627776
  · have e : longB n = true := by simpa [longB] using h
    rw [e]
    exact rlong_yes n w h.1 h.2
  · have e : longB n = false := by simpa [longB] using h
    rw [e]
    exact rlong_no n w (by omega)
theorem rtime_yes (n : Int) (w : World) (h : 0 ≤ n) (h' : n ≤ 1000000) :
    Calls Tryd.prog 45 #[.int .i64 n] w fun e w' => e = .returned (.bool true) ∧ w' = w := by
  go_enter Tryd.func45, Tryd.ntmps45
  go_wp2
  go_ret
  exact ⟨rfl, rfl⟩
theorem rtime_no (n : Int) (w : World) (h : n < 0 ∨ 1000000 < n) :
    Calls Tryd.prog 45 #[.int .i64 n] w fun e w' => e = .returned (.bool false) ∧ w' = w := by
  by_cases c : n < 0
  · clear h
    go_enter Tryd.func45, Tryd.ntmps45
    go_wp2
    go_ret
    exact ⟨rfl, rfl⟩
  · have c' : 1000000 < n := by omega
    clear h
    go_enter Tryd.func45, Tryd.ntmps45
    go_wp2
    go_ret
    exact ⟨ret_bool (by simp; omega), rfl⟩
theorem time_calls (b : Nat) (nw now : Int) (w : World) (h : w.cell? ⟨b, 2, none⟩ = some (.int .i64 nw)) :
    Calls Tryd.prog 35 #[.pointer (some ⟨b, 0, none⟩), .int .i64 now] w fun e w' => e = .returned (.int .i64 (tf nw now : Nat)) ∧ w' = w := by
  by_cases c : now < 0 ∨ 1000000 < now
  · have e : tf nw now = 1 := by unfold tf; rw [if_pos c]
    rw [e]
    have HC := hidden (fun w => rtime_no now w c)
    clear c e
    go_enter Tryd.func35, Tryd.ntmps35
    go_wp2_with fail
    refine (HC.out _).mono ?_
    rintro e w1 ⟨rfl, rfl⟩
    go_wp2_with fail
    go_ret
    exact ⟨rfl, rfl⟩
  have HC := hidden (fun w => rtime_yes now w (by omega) (by omega))
  by_cases c2 : now < nw
  · have e : tf nw now = 6 := by unfold tf; rw [if_neg c, if_pos c2]
    rw [e]
    clear c e
    go_enter Tryd.func35, Tryd.ntmps35
    go_wp2_with fail
    refine (HC.out _).mono ?_
    rintro e w1 ⟨rfl, rfl⟩
    go_wp2_with fail
    go_ret
    exact ⟨rfl, rfl⟩
  · have e : tf nw now = 0 := by unfold tf; rw [if_neg c, if_neg c2]
    rw [e]
    clear c e
    go_enter Tryd.func35, Tryd.ntmps35
    go_wp2_with fail
    refine (HC.out _).mono ?_
    rintro e w1 ⟨rfl, rfl⟩
    go_wp2_with fail
    go_ret
    exact ⟨rfl, rfl⟩

/-- under way: so many numbers are told -/
def LSt (w wr : World) (M : Its) (k m : Nat) (v : Value) : Prop := Below w.heap.size w wr ∧ wr.ownsRow w.heap.size 3 1 v m (ic (nums (M.take k))) ∧ m = k
theorem nums_take {M : Its} {k : Nat} {x : Lk} (hx : M[k]? = some x) : nums (M.take (k + 1)) = nums (M.take k) ++ [x.n] := by
  rw [List.take_add_one, hx]; simp [nums]
set_option maxHeartbeats 1000000 in
set_option maxRecDepth 100000 in
theorem rlacks_calls (base b : Nat) (ag tr nw T : Int) (M : Its) (lv gv : Value) (G : List Int) (w : World) (h : RefAt w base b ag tr nw T M lv G gv) (hl : M.length ≤ 1000) :
    Calls Tryd.prog 27 #[.pointer (some ⟨b, 0, none⟩)] w fun e w' => ∃ v, e = .returned v ∧ w'.ownsRow w.heap.size 3 1 v M.length (ic (nums M)) ∧ Below w.heap.size w w' := by
  obtain ⟨i0, hii, hz0, hz1, hz2⟩ := info_parts info3
  obtain ⟨la, lc, rfl, hfm⟩ := ref_form h.row
  have HR := hidden h
  have HF := hidden hfm
  have HS0 : Hid (LSt w w M 0 0 (.slice none 0 0)) := ⟨Below.refl _ _, by simpa [nums, ic] using World.ownsRow_nil w w.heap.size 3 1, rfl⟩
  clear h hfm
  go_enter Tryd.func27, Tryd.ntmps27
  go_wp2_with fail
  go_loopg [3, 4] M.length (fun g v' i' wr => ∃ (k m : Nat) (va : Option Addr) (vc : Nat), k + g = M.length ∧ v' = .slice va m vc ∧ i' = .int .i64 (k : Int) ∧ Hid (LSt w wr M k m (.slice va m vc)))
  case atStart => exact ⟨0, 0, none, 0, by omega, rfl, rfl, HS0⟩
  case round =>
    obtain ⟨k, m, va, vc, hkg, rfl, rfl, HS⟩ := hrel
    clear HS0
    obtain ⟨c0, c1, c2, c3, c4, c5⟩ := cells6 (HR.out.below HS.out.1).box
    by_cases hk : k < M.length
    · have hkz : (k : Int) < (M.length : Int) := by omega
      obtain ⟨g, rfl, hgb⟩ := HF.out (by omega)
      obtain ⟨x, hx⟩ : ∃ x, M[k]? = some x := ⟨_, List.getElem?_eq_getElem hk⟩
      obtain ⟨r0, r1, r2⟩ := ref_cell (HR.out.below HS.out.1).row hx
      have HX := hidden hx
      clear hx r1 r2
      have hmk : m ≤ 1000 := by have := HS.out.2.2; omega
      go_wp2_with (at_builtin; refine wpList_append_own _ rfl _ _ 39 rfl w.heap.size 3 i0 _ 1 8 Tryd.underlying39 hii hz0 hz1 hz2 rfl (by decide) _ m (ic (nums (M.take k))) rfl (HS.out.2.1.alloc _) ⟨wr.heap.size, 0, none⟩ 1 1 [.int .i64 x.n] rfl rfl (World.news_of_block (cs := #[.int .i64 x.n]) (t := 3) (fr := (0, 0)) (heap_alloc_new wr _)) ?c2 ?b1 ?b2 ?b3 ?next)
      case c2 => intro u hu'; simp at hu'; subst hu'; rfl
      case b1 => unfold maxLen; omega
      case b2 => omega
      case b3 => have := HS.out.1.size; simp; omega
      case next =>
        intro v' w5 hown hgrow _
        obtain ⟨g', c', rfl⟩ : ∃ g' c', v' = .slice (some ⟨g', 0, none⟩) (m + 1) c' := by
          rcases hown.2 with ⟨_, h⟩ | ⟨g', c', _, h, _⟩
          · omega
          · exact ⟨g', c', h⟩
        have HS5 : Hid (LSt w w5 M (k + 1) (m + 1) (.slice (some ⟨g', 0, none⟩) (m + 1) c')) := by
          have hsz := HS.out.1.size
          refine ⟨(HS.out.1.alloc hsz _).grown hgrow (by simp; omega) (fun j hj => (HS.out.2.1.lt j hj).1), ?_, by have := HS.out.2.2; omega⟩
          rw [nums_take HX.out, ic_app]
          exact hown
        clear hown hgrow
        go_wp2_with fail
        go_roundg (M.length - (k + 1))
        case measure => omega
        case rel => exact ⟨k + 1, m + 1, some ⟨g', 0, none⟩, c', by omega, rfl, by go_num, HS5⟩
    · have hkz : ¬ (k : Int) < (M.length : Int) := by omega
      obtain rfl : k = M.length := by omega
      go_wp2_with fail
      go_ret
      obtain ⟨q1, q2, q3⟩ := HS.out
      rw [List.take_length, q3] at q2
      exact ⟨_, rfl, by rw [q3]; exact q2, q1⟩
end Go.Proofs.YtnnehhgdinclgadDoor.RGaps
