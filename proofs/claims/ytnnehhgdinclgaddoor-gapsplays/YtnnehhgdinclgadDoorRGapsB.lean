/-
  What the reference's method Hear returns, whatever it is given, and what it leaves in memory. Its condition: what is lacking is such as it may be.
-/
import Derived.Test.YtnnehhgdinclgadDoorRGapsA
import Derived.Deep.AppendLies
import Derived.Deep.CutRange
namespace Go.Proofs.YtnnehhgdinclgadDoor.RGaps
open Go.ChangeShapes Go.WideShapes Go.ChangeAt Go.RowKit Go.Proofs.YtnnehhgdinclgadDoor.Mem Go.Proofs.YtnnehhgdinclgadDoor.GM Go.Proofs.YtnnehhgdinclgadDoor.Gaps
set_option linter.unusedVariables false

theorem time_ok (b : Nat) (nw now : Int) (w : World) (h : w.cell? ⟨b, 2, none⟩ = some (.int .i64 nw)) (ht : tf nw now = 0) :
    Calls Tryd.prog 35 #[.pointer (some ⟨b, 0, none⟩), .int .i64 now] w fun e w' => e = .returned (.int .i64 0) ∧ w' = w := by
  have := time_calls b nw now w h
  rw [ht] at this
  exact this

set_option maxHeartbeats 1000000 in
set_option maxRecDepth 100000 in
theorem rhear_time (b : Nat) (nw y now : Int) (w : World) (h : w.cell? ⟨b, 2, none⟩ = some (.int .i64 nw)) (ht : tf nw now ≠ 0) :
    Calls Tryd.prog 19 #[.pointer (some ⟨b, 0, none⟩), .int .i64 y, .int .i64 now] w fun e w' => e = .returned (.tuple #[.bool false, .int .i64 (tf nw now : Nat)]) ∧ Below w.heap.size w w' := by
  have HC := hidden (fun w h => time_calls b nw now w h)
  have HL := hidden (fun w => rlong_calls y w)
  have hft := @tf_le nw now
  generalize tf nw now = f at *
  generalize longB y = lb at *
  have d0 : ((f : Int) == 0) = false := by simp; omega
  have d1 : ((f : Int) != 0) = true := by simp; omega
  clear ht
  go_enter Tryd.func19, Tryd.ntmps19
  go_wp2_with fail
  refine (HC.out _ (by exact h)).mono ?_
  rintro e w1 ⟨rfl, rfl⟩
  go_wp2_with fail
  refine (HL.out _).mono ?_
  rintro e w1 ⟨rfl, rfl⟩
  go_wp2_with fail
  go_quiet (fail)
  go_wp2_with fail
  go_ret2
  exact ⟨rfl, below_drewN (Below.refl _ _) _⟩
set_option maxHeartbeats 1000000 in
set_option maxRecDepth 100000 in
theorem rhear_range (b : Nat) (nw y now : Int) (w : World) (h : w.cell? ⟨b, 2, none⟩ = some (.int .i64 nw)) (ht : tf nw now = 0) (hy : y < 0 ∨ 1099511627776 < y) :
    Calls Tryd.prog 19 #[.pointer (some ⟨b, 0, none⟩), .int .i64 y, .int .i64 now] w fun e w' => e = .returned (.tuple #[.bool false, .int .i64 1]) ∧ Below w.heap.size w w' := by
  have HC := hidden (fun w h => time_ok b nw now w h ht)
  have HL := hidden (fun w => rlong_no y w hy)
  clear ht hy
  go_enter Tryd.func19, Tryd.ntmps19
  go_wp2_with fail
  refine (HC.out _ (by exact h)).mono ?_
  rintro e w1 ⟨rfl, rfl⟩
  go_wp2_with fail
  refine (HL.out _).mono ?_
  rintro e w1 ⟨rfl, rfl⟩
  go_wp2_with fail
  go_quiet (fail)
  go_wp2_with fail
  go_ret2
  exact ⟨rfl, below_drewN (Below.refl _ _) _⟩
set_option maxHeartbeats 1000000 in
set_option maxRecDepth 100000 in
theorem rhear_full (base b : Nat) (ag tr nw T y now : Int) (M : Its) (lv gv : Value) (G : List Int) (w : World) (h : RefAt w base b ag tr nw T M lv G gv) (hl : M.length ≤ 200) (ht : tf nw now = 0) (h0 : 0 ≤ y) (h1 : y ≤ 1099511627776) (hT : 0 ≤ T) (hTy : T < y) (hf : 200 < y - T - 1 + (M.length : Int)) :
    Calls Tryd.prog 19 #[.pointer (some ⟨b, 0, none⟩), .int .i64 y, .int .i64 now] w fun e w' => e = .returned (.tuple #[.bool false, .int .i64 4]) ∧ Below w.heap.size w w' := by
  have HC := hidden (fun w h => time_ok b nw now w h ht)
  have HL := hidden (fun w => rlong_yes y w h0 h1)
  obtain ⟨la, lc, rfl, hfm⟩ := ref_form h.row
  obtain ⟨c0, c1, c2, c3, c4, c5⟩ := cells6 h.box
  have d1 : decide (0 ≤ T) = true := by simpa using hT
  have d2 : decide (T < y) = true := by simpa using hTy
  have d3 : decide (200 < y - T - 1 + (M.length : Int)) = true := by simpa using hf
  clear ht h hfm
  go_enter Tryd.func19, Tryd.ntmps19
  go_wp2_with fail
  refine (HC.out _ (by exact c2)).mono ?_
  rintro e w1 ⟨rfl, rfl⟩
  go_wp2_with fail
  refine (HL.out _).mono ?_
  rintro e w1 ⟨rfl, rfl⟩
  go_wp2_with fail
  go_quiet (fail)
  go_wp2_with fail
  go_ret2
  exact ⟨rfl, below_drewN (Below.refl _ _) _⟩
set_option maxHeartbeats 1000000 in
set_option maxRecDepth 100000 in
theorem rhear_first (base b : Nat) (ag tr nw T y now : Int) (M : Its) (lv gv : Value) (G : List Int) (w : World) (h : RefAt w base b ag tr nw T M lv G gv) (ht : tf nw now = 0) (h0 : 0 ≤ y) (h1 : y ≤ 1099511627776) (hT : T < 0) :
    Calls Tryd.prog 19 #[.pointer (some ⟨b, 0, none⟩), .int .i64 y, .int .i64 now] w fun e w' => e = .returned (.tuple #[.bool true, .int .i64 0]) ∧ RefAt w' base b ag tr now y M lv G gv ∧ Only [b] w w' := by
  have HC := hidden (fun w h => time_ok b nw now w h ht)
  have HL := hidden (fun w => rlong_yes y w h0 h1)
  have c2 := (cells6 h.box).2.2.1
  have c3 := (cells6 h.box).2.2.2.1
  have HR := hidden h
  have d1 : decide (0 ≤ T) = false := by simp; omega
  clear ht h
  go_enter Tryd.func19, Tryd.ntmps19
  go_wp2_with fail
  refine (HC.out _ (by exact c2)).mono ?_
  rintro e w1 ⟨rfl, rfl⟩
  go_wp2_with fail
  refine (HL.out _).mono ?_
  rintro e w1 ⟨rfl, rfl⟩
  go_wp2_with fail
  go_quiet (fail)
  obtain ⟨w2, hw2⟩ : ∃ w2, w1.drewN nq = w2 := ⟨_, rfl⟩
  rw [hw2]
  have HR2 : Hid (RefAt w2 base b ag tr nw T M lv G gv) := by rw [← hw2]; exact HR.out.below (below_drewN (Below.refl _ _) _)
  have HO2 : Hid (Only [b] w1 w2) := by rw [← hw2]; exact (Only.refl _ _).drewN _
  clear hw2 HR c2 c3
  obtain ⟨c0, c1, c2, c3, c4, c5⟩ := cells6 HR2.out.box
  have f2 := free6 HR2.out.box 2
  have HR3 := hidden (HR2.out.set (nw' := now) (T' := T) 2 (.int .i64 now) rfl)
  have k3 := (cells6 HR3.out.box).2.2.2.1
  have f3 := free6 HR3.out.box 3
  have HR4 := hidden (HR3.out.set (nw' := now) (T' := y) 3 (.int .i64 y) rfl)
  go_wp2_with fail
  go_ret2
  exact ⟨rfl, HR4.out, (HO2.out.setCell (by simp) _).setCell (by simp) _⟩

/-- the row of what is lacking has grown by one -/
theorem ref_more {w4 w6 : World} {base b g n cap : Nat} {ag tr nw T : Int} {M : Its} {lv gv : Value} {G : List Int} {x : Lk} {O : Obj} (h : RefAt w4 base b ag tr nw T M lv G gv) (hn : n = M.length)
    (hown : w6.ownsRow base 87 3 (.slice (some ⟨g, 0, none⟩) (n + 1) cap) (n + 1) (flat M ++ lkC x)) (hgrow : (w4.alloc O).grownBy w6 lv.ownBlock) (hat : lv.ownBlock = some g ∨ g = w4.heap.size + 1) :
    RefAt (w6.setCell ⟨b, 4, none⟩ (.slice (some ⟨g, 0, none⟩) (n + 1) cap)) base b ag tr nw T (M ++ [x]) (.slice (some ⟨g, 0, none⟩) (n + 1) cap) G gv ∧ Only (b :: lv.ownBlock.toList) w4 (w6.setCell ⟨b, 4, none⟩ (.slice (some ⟨g, 0, none⟩) (n + 1) cap)) := by
  have hne := h.ne
  have hlt := h.lt
  have oA : Only lv.ownBlock.toList w4 w6 := ((Only.refl _ w4).alloc O).trans ((Only.refl _ _).grown hgrow (by simp))
  have oB : Only [b] w6 (w6.setCell ⟨b, 4, none⟩ (.slice (some ⟨g, 0, none⟩) (n + 1) cap)) := (Only.refl _ _).setCell (by simp) _
  have hgb : g ≠ b := by
    rcases hat with hat | hat
    · exact (hne.1 g hat).1
    · have := hlt b (by simp [rblks]); omega
  have hb6 := oA.block h.box (by intro hc; simp at hc; exact (hne.1 b hc).1 rfl)
  refine ⟨⟨setb hb6 4 _, ?_, ?_⟩, (oA.mono (by intro k hk; exact List.mem_cons_of_mem _ hk)).trans (oB.mono (by simp))⟩
  · rw [flat_app, flat_one, List.length_append, List.length_singleton, ← hn]
    exact oB.owns hown (by intro k hk hc; simp [Value.ownBlock] at hk hc; omega)
  · refine oB.owns (oA.owns h.gave ?_) (fun k hk => by simp; exact hne.2 k hk)
    intro k hk hc
    simp at hc
    exact (hne.1 k hc).2 hk
/-- under way: so many are lacking by now -/
structure ESt (w wr : World) (base b : Nat) (ag tr now T : Int) (M : Its) (lv lv2 gv : Value) (G : List Int) (j : Nat) : Prop where
  ref : RefAt wr base b ag tr now T (M ++ fresh T j) lv2 G gv
  lb : ∀ k, lv2.ownBlock = some k → lv.ownBlock = some k ∨ w.heap.size ≤ k
  only : Only (b :: lv.ownBlock.toList) w wr
theorem ESt.step {w wr w6 : World} {base b g n cap j : Nat} {ag tr now T : Int} {M : Its} {lv lv2 gv : Value} {G : List Int} {O : Obj} (h : ESt w wr base b ag tr now T M lv lv2 gv G j) (hn : n = M.length + j)
    (hown : w6.ownsRow base 87 3 (.slice (some ⟨g, 0, none⟩) (n + 1) cap) (n + 1) (flat (M ++ fresh T j) ++ [.int .i64 (T + 1 + (j : Int)), .int .i64 0, .int .i64 0])) (hgrow : (wr.alloc O).grownBy w6 lv2.ownBlock) (hat : lv2.ownBlock = some g ∨ g = wr.heap.size + 1) :
    ESt w (w6.setCell ⟨b, 4, none⟩ (.slice (some ⟨g, 0, none⟩) (n + 1) cap)) base b ag tr now T M lv (.slice (some ⟨g, 0, none⟩) (n + 1) cap) gv G (j + 1) := by
  obtain ⟨r1, r2⟩ := ref_more (x := ⟨T + 1 + (j : Int), 0, 0⟩) h.ref (by rw [hn, List.length_append, fresh_len]) hown hgrow hat
  have hsz := h.only.2.2.2.1
  refine ⟨?_, ?_, past h.only r2 ?_⟩
  · rw [fresh_succ, ← List.append_assoc]
    exact r1
  · intro k hk
    simp [Value.ownBlock] at hk
    subst hk
    rcases hat with hat | hat
    · exact h.lb _ hat
    · right; omega
  · intro k hk
    simp at hk
    rcases hk with rfl | hk
    · exact .inl (by simp)
    · rcases h.lb k hk with q | q
      · exact .inl (by simp [q])
      · exact .inr q

set_option maxHeartbeats 4000000 in
set_option maxRecDepth 100000 in
theorem rhear_rise (base b : Nat) (ag tr nw T y now : Int) (M : Its) (lv gv : Value) (G : List Int) (w : World) (h : RefAt w base b ag tr nw T M lv G gv) (hbase : base ≤ w.heap.size) (ht : tf nw now = 0) (h0 : 0 ≤ y) (h1 : y ≤ 1099511627776) (hT : 0 ≤ T) (hTy : T < y) (hf : y - T - 1 + (M.length : Int) ≤ 200) :
    Calls Tryd.prog 19 #[.pointer (some ⟨b, 0, none⟩), .int .i64 y, .int .i64 now] w fun e w' => e = .returned (.tuple #[.bool true, .int .i64 0]) ∧ ∃ lv2, RefAt w' base b ag tr now y (M ++ fresh T (lo T y).toNat) lv2 G gv ∧ (∀ k, lv2.ownBlock = some k → lv.ownBlock = some k ∨ w.heap.size ≤ k) ∧ Only (b :: lv.ownBlock.toList) w w' := by
  obtain ⟨i0, hii, hz0, hz1, hz2⟩ := info_parts infoLK
  have HC := hidden (fun w h => time_ok b nw now w h ht)
  have HL := hidden (fun w => rlong_yes y w h0 h1)
  have hlo : lo T y = y - T - 1 := by unfold lo; rw [if_neg (by omega)]
  obtain ⟨K, hK⟩ : ∃ K : Nat, y - T - 1 = (K : Int) := ⟨(y - T - 1).toNat, by omega⟩
  have hKy : y = T + 1 + (K : Int) := by omega
  rw [hlo, hK, Int.toNat_natCast]
  have HR := hidden h
  obtain ⟨la, lc, elv, hfm⟩ := ref_form h.row
  obtain ⟨c0, c1, c2, c3, c4, c5⟩ := cells6 h.box
  rw [elv] at c4
  have d1 : decide (0 ≤ T) = true := by simpa using hT
  have d2 : decide (T < y) = true := by simpa using hTy
  have d3 : decide (200 < y - T - 1 + (M.length : Int)) = false := by simp; omega
  have d4 : ¬ T < 0 := by omega
  have hl200 : M.length ≤ 200 := by omega
  have HKy := hidden hKy
  have HF0 := hidden hf
  clear ht h hfm hlo hf elv hK hKy
  go_enter Tryd.func19, Tryd.ntmps19
  go_wp2_with fail
  refine (HC.out _ (by exact c2)).mono ?_
  rintro e w1 ⟨rfl, rfl⟩
  go_wp2_with fail
  refine (HL.out _).mono ?_
  rintro e w1 ⟨rfl, rfl⟩
  go_wp2_with fail
  go_quiet (fail)
  obtain ⟨w2, hw2⟩ : ∃ w2, w1.drewN nq = w2 := ⟨_, rfl⟩
  rw [hw2]
  have HR2 : Hid (RefAt w2 base b ag tr nw T M lv G gv) := by rw [← hw2]; exact HR.out.below (below_drewN (Below.refl _ _) _)
  have HO2 : Hid (Only (b :: lv.ownBlock.toList) w1 w2) := by rw [← hw2]; exact (Only.refl _ _).drewN _
  clear hw2 HR c0 c1 c2 c3 c4 c5 HC HL
  obtain ⟨c0, c1, c2, c3, c4, c5⟩ := cells6 HR2.out.box
  have f2 := free6 HR2.out.box 2
  have HR3 := hidden (HR2.out.set (nw' := now) (T' := T) 2 (.int .i64 now) rfl)
  have k3 := (cells6 HR3.out.box).2.2.2.1
  have HE0 : Hid (ESt w1 (w2.setCell ⟨b, 2, none⟩ (.int .i64 now)) base b ag tr now T M lv lv gv G 0) := ⟨by simpa [fresh] using HR3.out, fun k hk => .inl hk, HO2.out.setCell (by simp) _⟩
  have h200 : ¬ (200 : Int) < y - T - 1 + (M.length : Int) := by have := HF0.out; omega
  go_wp2_with fail
  clear c0 c1 c2 c3 c4 c5 f2 k3 h200 d3
  go_loopg [10] K (fun g k' wr => ∃ (j : Nat) (lv2 : Value), j + g = K ∧ k' = .int .i64 (T + 1 + (j : Int)) ∧ Hid (ESt w1 wr base b ag tr now T M lv lv2 gv G j))
  case atStart => exact ⟨0, lv, by omega, by simp, HE0⟩
  case round =>
    obtain ⟨j, lv2, hjg, rfl, HE⟩ := hrel
    clear HE0
    by_cases hj : j < K
    · have hjz : T + 1 + (j : Int) < y := by have := HKy.out; omega
      obtain ⟨n, hn⟩ : ∃ n, n = M.length + j := ⟨_, rfl⟩
      have hn9 : n ≤ 1000 := by have := HKy.out; have := HF0.out; omega
      have HRow : Hid (wr.ownsRow base 87 3 lv2 n (flat (M ++ fresh T j))) := by have := HE.out.ref.row; rw [List.length_append, fresh_len, ← hn] at this; exact this
      obtain ⟨a2, e2c, e2, _⟩ := ref_form HE.out.ref.row
      rw [List.length_append, fresh_len, ← hn] at e2
      have HN := hidden hn
      clear hn
      subst e2
      have c4 := (cells6 HE.out.ref.box).2.2.2.2.1
      have hbx := hidden HE.out.ref.box
      have hlt := HE.out.ref.lt b (by simp [rblks])
      have hne := hidden HE.out.ref.ne
      go_wp2_with (at_builtin; refine wpList_append_lies _ rfl _ _ 56 rfl base 87 i0 _ 3 24 Tryd.underlying56 hii hz0 hz1 hz2 rfl (by decide) _ n (flat (M ++ fresh T j)) rfl (HRow.out.alloc _) ⟨wr.heap.size, 0, none⟩ 1 1 [.int .i64 (T + 1 + (j : Int)), .int .i64 0, .int .i64 0] rfl rfl (World.news_of_block (cs := #[.int .i64 (T + 1 + (j : Int)), .int .i64 0, .int .i64 0]) (t := 87) (fr := (0, 0)) (heap_alloc_new wr _)) ?c2 (by omega) ?b1 ?b2 ?b3 (wr.heap.size + 1) (by simp) ?next)
      case c2 => intro u hu'; simp at hu'; rcases hu' with rfl | rfl <;> rfl
      case b1 => unfold maxLen; omega
      case b2 => omega
      case b3 => have := HE.out.only.2.2.2.1; simp; omega
      case next =>
        intro gg cap6 w6 hown6 hgrow6 hat6 hlt6
        have hb6 : w6.heap[b]? = _ := (hgrow6.block b (by simp; omega) (by intro e; have := (hne.out.1 b e.symm).1; omega)).trans ((Below.heap_alloc _ _ _ hlt).trans hbx.out)
        have k6 := (cells6 hb6).2.2.2.2.1
        have f6 := free6 hb6 4
        have HF := hidden (HE.out.step HN.out hown6 hgrow6 hat6)
        clear hown6 hgrow6 hat6 hlt6 hb6
        go_wp2_with fail
        go_roundg (K - (j + 1))
        case measure => omega
        case rel => exact ⟨j + 1, _, by omega, by go_num, HF⟩
    · have hjz : ¬ T + 1 + (j : Int) < y := by have := HKy.out; omega
      obtain rfl : j = K := by omega
      have k3 := (cells6 HE.out.ref.box).2.2.2.1
      have f3 := free6 HE.out.ref.box 3
      go_wp2_with fail
      go_ret2
      exact ⟨rfl, lv2, HE.out.ref.set (nw' := now) (T' := y) 3 (.int .i64 y) rfl, HE.out.lb, HE.out.only.setCell (by simp) _⟩
end Go.Proofs.YtnnehhgdinclgadDoor.RGaps
