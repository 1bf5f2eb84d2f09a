/-
  The walk of the Go function OrderLate: it returns true. No condition.
-/
import Derived.Test.YtenjemcehhocoadOrderE
namespace Go.Proofs.Ytenjemcehhocoad.OLate
open Go.ChangeShapes Go.WideShapes Go.ChangeAt Go.RowKit Go.Proofs.Ytenjemcehhocoad.PM Go.Proofs.Ytenjemcehhocoad.Mem Go.Proofs.Ytenjemcehhocoad.Pack Go.Proofs.Ytenjemcehhocoad.OM Go.Proofs.Ytenjemcehhocoad.Order
set_option linter.unusedVariables false

/-- an empty packet of a number, kept since a time -/
def k1 (y : Int) (bv : Value) (a : Int) : Kp := ⟨y, false, ⟨0, 0, 0, 0, false, [], bv⟩, a⟩
theorem arg0 (w : World) : Arg w none 0 [] := ⟨Bys.nil _ _, rfl, by omega⟩
theorem push_in (b mb : Nat) (wt nw nx y now : Int) (M : Its) (w : World) (h : OrderAt w b mb wt nw nx M) (hI : OM.Inv nw nx M) (ht : tf nw now = 0) (h0 : 0 ≤ y) (h1 : y ≤ 1099511627776) (hr : far nx y = false) (hk : kx (fx nx y) y M = true) :
    Calls Try.prog 12 #[.pointer (some ⟨b, 0, none⟩), .int .i64 y, .agg #[.int .i64 0, .int .i64 0, .int .i64 0, .int .i64 0, .bool false, .slice none 0 0], .int .i64 now] w fun e w' => e = .returned (.tuple #[.bool true, .nilIface]) ∧ ∃ bv, OrderAt w' b mb wt now (fx nx y) (M ++ [k1 y bv now]) ∧ OM.Inv now (fx nx y) (M ++ [k1 y bv now]) ∧ Only [b, mb] w w' := by
  refine (push_ok b mb wt nw nx y now 0 0 0 0 false none 0 0 [] M w h hI (arg0 w) (fun _ => ⟨rfl, rfl⟩) ht h0 h1 rfl hr).mono ?_
  rintro e w' ⟨rfl, bv, hO, ho⟩
  rw [hk] at hO ⊢
  have hv := inv_push (y := y) (now := now) hI 0 ⟨0, 0, 0, 0, false, [], bv⟩
  have hp : pf nw nx y now 0 = 0 := pf_mk ht h0 h1 rfl hr
  have hx : px nw nx y now M 0 = true := by simp [px, hp, hk]
  unfold pW pX pM at hv
  rw [hp, hx] at hv
  exact ⟨rfl, bv, hO, hv, ho⟩
theorem push_out (b mb : Nat) (wt nw nx y now : Int) (M : Its) (w : World) (h : OrderAt w b mb wt nw nx M) (hI : OM.Inv nw nx M) (ht : tf nw now = 0) (h0 : 0 ≤ y) (h1 : y ≤ 1099511627776) (hr : far nx y = false) (hn : nx ≠ -1) (hk : kx nx y M = false) :
    Calls Try.prog 12 #[.pointer (some ⟨b, 0, none⟩), .int .i64 y, .agg #[.int .i64 0, .int .i64 0, .int .i64 0, .int .i64 0, .bool false, .slice none 0 0], .int .i64 now] w fun e w' => e = .returned (.tuple #[.bool false, .nilIface]) ∧ OrderAt w' b mb wt now nx M ∧ OM.Inv now nx M ∧ Only [b, mb] w w' := by
  have hf : fx nx y = nx := by simp [fx, hn]
  refine (push_ok b mb wt nw nx y now 0 0 0 0 false none 0 0 [] M w h hI (arg0 w) (fun _ => ⟨rfl, rfl⟩) ht h0 h1 rfl hr).mono ?_
  rintro e w' ⟨rfl, bv, hO, ho⟩
  rw [hf, hk] at hO ⊢
  obtain ⟨_, t1, t2⟩ := tf_zero ht
  exact ⟨rfl, hO, hI.later t2 t1, ho⟩
/-- what is handed out, cell by cell -/
theorem items_cell {w : World} {base K : Nat} {av : Option Addr} {cv : Nat} {M : Its} {nx : Int} (h : w.ownsRow base 48 8 (.slice av K cv) K (flat c8 (takes M nx K))) (hK : 0 < K) : ∃ g, av = some ⟨g, 0, none⟩ ∧ base ≤ g ∧ ∀ j, j < K → ∀ k, k < 8 → w.cell? ⟨g, j * 8 + k, none⟩ = (c8 (itm M (nx + (j : Int))))[k]? := by
  have hl := takes_len M nx K
  obtain ⟨X, hX⟩ : ∃ X, takes M nx K = X := ⟨_, rfl⟩
  have hg : ∀ j, j < K → X[j]? = some (itm M (nx + (j : Int))) := fun j hj => by rw [← hX]; exact takes_get M nx K j hj
  rw [hX] at h hl
  subst hl
  rcases row_form h with ⟨_, e⟩ | ⟨g, c, e, hb⟩
  · subst e; simp at hK
  · simp only [Value.slice.injEq, true_and] at e
    obtain ⟨rfl, rfl⟩ := e
    exact ⟨g, rfl, hb, fun j hj k hk => row_cell c8_len h (hg j hj) k hk⟩
/-- Pop, where it is known what is handed out -/
theorem pop_in (b mb : Nat) (wt nw nx now od : Int) (M M2 : Its) (K : Nat) (w : World) (h : OrderAt w b mb wt nw nx M) (hI : OM.Inv nw nx M) (ht : tf nw now = 0) (hO : Od wt now M od) (hK : Stop M od nx K) (hK2 : K ≤ 200) (x2 : Int) (hx : nx + (K : Int) = x2) (hM : rest M x2 = M2) :
    Calls Try.prog 13 #[.pointer (some ⟨b, 0, none⟩), .int .i64 now] w fun e w' => ∃ av cv, e = .returned (.tuple #[.slice av K cv, .nilIface]) ∧ w'.ownsRow w.heap.size 48 8 (.slice av K cv) K (flat c8 (takes M nx K)) ∧ OrderAt w' b mb wt now x2 M2 ∧ OM.Inv now x2 M2 ∧ Only [b, mb] w w' := by
  refine (pop_ok b mb wt nw nx now od M K w h hI ht hO hK hK2).mono ?_
  rintro e w' ⟨av, cv, rfl, h1, h2, h3, h4⟩
  have hv := inv_pop hI ht hO hK.all
  rw [hx, hM] at h3 hv
  exact ⟨av, cv, rfl, h1, h3, hv, h4⟩

set_option maxHeartbeats 1000000 in
set_option maxRecDepth 100000 in
theorem walk_err (f wt : Int) (lt : Bool) (w : World) (h : wt < 0 ∨ 1000000 < wt) :
    Calls Try.prog 5 #[.int .i64 f, .int .i64 wt, .bool lt] w fun e w' => e = .returned (.bool true) ∧ Below w.heap.size w w' := by
  have H : Hid (∀ W, Calls Try.prog 11 #[.int .i64 wt] W fun e w' => e = .returned (.tuple #[.pointer none, .iface 50 (.int .i64 1)]) ∧ w' = W) := hidden (fun W => new_err wt W h)
  by_cases c : wt < 0
  · clear h
    go_enter Try.func5, Try.ntmps5
    go_wp2_with fail
    refine (H.out _).mono ?_
    rintro e w' ⟨rfl, rfl⟩
    go_wp2_with fail
    go_ret
    exact ⟨rfl, Below.refl _ _⟩
  · have c' : 1000000 < wt := by omega
    clear h
    go_enter Try.func5, Try.ntmps5
    go_wp2_with fail
    refine (H.out _).mono ?_
    rintro e w' ⟨rfl, rfl⟩
    go_wp2_with fail
    go_ret
    exact ⟨rfl, Below.refl _ _⟩
set_option maxHeartbeats 1000000 in
set_option maxRecDepth 100000 in
theorem walk_far (f wt : Int) (lt : Bool) (w : World) (h0 : 0 ≤ wt) (h1 : wt ≤ 1000000) (h : f < 0 ∨ 1000000 < f ∨ wt < 1 ∨ 100000 < wt) :
    Calls Try.prog 5 #[.int .i64 f, .int .i64 wt, .bool lt] w fun e w' => e = .returned (.bool true) ∧ Below w.heap.size w w' := by
  have H := hidden (fun w => new_ok wt w h0 h1)
  by_cases c : f < 0
  · clear h
    go_enter Try.func5, Try.ntmps5
    go_wp2_with fail
    refine (H.out _).mono ?_
    rintro e w1 ⟨b, mb, rfl, hb1, hb2, hR, hbl⟩
    clear hR
    go_wp2_with fail
    go_ret
    exact ⟨rfl, hbl⟩
  by_cases c1 : 1000000 < f
  · clear h
    go_enter Try.func5, Try.ntmps5
    go_wp2_with fail
    refine (H.out _).mono ?_
    rintro e w1 ⟨b, mb, rfl, hb1, hb2, hR, hbl⟩
    clear hR
    go_wp2_with fail
    go_ret
    exact ⟨rfl, hbl⟩
  by_cases c2 : wt < 1
  · clear h
    go_enter Try.func5, Try.ntmps5
    go_wp2_with fail
    refine (H.out _).mono ?_
    rintro e w1 ⟨b, mb, rfl, hb1, hb2, hR, hbl⟩
    clear hR
    go_wp2_with fail
    go_ret
    exact ⟨rfl, hbl⟩
  · have c3 : 100000 < wt := by omega
    clear h
    go_enter Try.func5, Try.ntmps5
    go_wp2_with fail
    refine (H.out _).mono ?_
    rintro e w1 ⟨b, mb, rfl, hb1, hb2, hR, hbl⟩
    clear hR
    go_wp2_with fail
    go_ret
    exact ⟨rfl, hbl⟩

theorem st1 {f : Int} {bv1 bv2 : Value} : Stop [k1 f bv1 0, k1 (f + 2) bv2 0] (-1) f 1 ∨ f < 0 := by
  by_cases h : f < 0
  · exact .inr h
  · refine .inl ⟨fun j hj => ?_, ?_⟩
    · obtain rfl : j = 0 := by omega
      simp [goes, has, k1]
    · simp [goes, has, k1]
      omega
set_option maxHeartbeats 4000000 in
set_option maxRecDepth 100000 in
theorem walk_late (f wt : Int) (w : World) (h0 : 0 ≤ f) (h1 : f ≤ 1000000) (h2 : 1 ≤ wt) (h3 : wt ≤ 100000) :
    Calls Try.prog 5 #[.int .i64 f, .int .i64 wt, .bool true] w fun e w' => e = .returned (.bool true) ∧ Below w.heap.size w w' := by
  have H := hidden (fun w => new_ok wt w (by omega) (by omega))
  have hnm1 : f ≠ -1 := by omega
  have H1 : Hid (∀ W b mb, OrderAt W b mb wt 0 (-1) [] → Calls Try.prog 12 #[.pointer (some ⟨b, 0, none⟩), .int .i64 f, .agg #[.int .i64 0, .int .i64 0, .int .i64 0, .int .i64 0, .bool false, .slice none 0 0], .int .i64 0] W fun e w' => e = .returned (.tuple #[.bool true, .nilIface]) ∧ ∃ bv, OrderAt w' b mb wt 0 f [k1 f bv 0] ∧ OM.Inv 0 f [k1 f bv 0] ∧ Only [b, mb] W w') :=
    hidden (fun W b mb hW => push_in b mb wt 0 (-1) f 0 [] W hW inv_start rfl h0 (by omega) rfl (by simp [kx, fx, has]))
  have H2 : Hid (∀ W b mb bv, OrderAt W b mb wt 0 f [k1 f bv 0] → OM.Inv 0 f [k1 f bv 0] → Calls Try.prog 12 #[.pointer (some ⟨b, 0, none⟩), .int .i64 (f + 2), .agg #[.int .i64 0, .int .i64 0, .int .i64 0, .int .i64 0, .bool false, .slice none 0 0], .int .i64 0] W fun e w' => e = .returned (.tuple #[.bool true, .nilIface]) ∧ ∃ bv2, OrderAt w' b mb wt 0 f [k1 f bv 0, k1 (f + 2) bv2 0] ∧ OM.Inv 0 f [k1 f bv 0, k1 (f + 2) bv2 0] ∧ Only [b, mb] W w') := by
    refine hidden (fun W b mb bv hW hI => ?_)
    have hfx : fx f (f + 2) = f := by simp [fx, hnm1]
    have := push_in b mb wt 0 f (f + 2) 0 [k1 f bv 0] W hW hI rfl (by omega) (by omega) (by simp [far]; omega) (by rw [hfx]; simp [kx, has, k1]; omega)
    rw [hfx] at this
    exact this
  have H3 : Hid (∀ W b mb bv bv2, OrderAt W b mb wt 0 f [k1 f bv 0, k1 (f + 2) bv2 0] → OM.Inv 0 f [k1 f bv 0, k1 (f + 2) bv2 0] → Calls Try.prog 13 #[.pointer (some ⟨b, 0, none⟩), .int .i64 0] W fun e w' => ∃ av cv, e = .returned (.tuple #[.slice av 1 cv, .nilIface]) ∧ OrderAt w' b mb wt 0 (f + 1) [k1 (f + 2) bv2 0] ∧ OM.Inv 0 (f + 1) [k1 (f + 2) bv2 0] ∧ Only [b, mb] W w') := by
    refine hidden (fun W b mb bv bv2 hW hI => ?_)
    refine (pop_in b mb wt 0 f 0 (-1) _ [k1 (f + 2) bv2 0] 1 W hW hI rfl ⟨by omega, ?_, .inl rfl⟩ ?_ (by omega) (f + 1) (by omega) ?_).mono ?_
    · intro i hi hl
      simp [k1] at hi
      rcases hi with rfl | rfl <;> simp [late] at hl <;> omega
    · rcases st1 (f := f) (bv1 := bv) (bv2 := bv2) with h | h
      · exact h
      · omega
    · unfold rest
      rw [List.filter_cons_of_neg, List.filter_cons_of_pos]
      · rfl
      · simp [k1]
      · rw [decide_eq_true_eq]
        show ¬ f + 1 ≤ f
        omega
    · rintro e w' ⟨av, cv, rfl, _, k2, k3, k4⟩
      exact ⟨av, cv, rfl, k2, k3, k4⟩
  have htf : tf 0 wt = 0 := tf_mk (by omega) (by omega) (by omega)
  have H4 : Hid (∀ W b mb bv2, OrderAt W b mb wt 0 (f + 1) [k1 (f + 2) bv2 0] → OM.Inv 0 (f + 1) [k1 (f + 2) bv2 0] → Calls Try.prog 13 #[.pointer (some ⟨b, 0, none⟩), .int .i64 wt] W fun e w' => ∃ g cv, e = .returned (.tuple #[.slice (some ⟨g, 0, none⟩) 2 cv, .nilIface]) ∧ (w'.cell? ⟨g, 1, none⟩ = some (.bool true) ∧ w'.cell? ⟨g, 9, none⟩ = some (.bool false)) ∧ W.heap.size ≤ g ∧ OrderAt w' b mb wt wt (f + 3) [] ∧ OM.Inv wt (f + 3) [] ∧ Only [b, mb] W w') := by
    refine hidden (fun W b mb bv2 hW hI => ?_)
    refine (pop_in b mb wt 0 (f + 1) wt (f + 2) _ [] 2 W hW hI htf ⟨by omega, ?_, .inr ⟨k1 (f + 2) bv2 0, by simp, by simp [late, k1], rfl⟩⟩ ⟨fun j hj => ?_, ?_⟩ (by omega) (f + 3) (by omega) ?_).mono ?_
    · intro i hi hl
      simp [k1] at hi
      subst hi
      simp
    · simp [goes, has, k1]
      omega
    · simp [goes, has, k1]
      omega
    · simp [rest, k1]
    · rintro e w' ⟨av, cv, rfl, hr, k2, k3, k4⟩
      obtain ⟨g, rfl, hg, hc⟩ := items_cell hr (by omega)
      refine ⟨g, cv, rfl, ⟨?_, ?_⟩, hg, k2, k3, k4⟩
      · have := hc 0 (by omega) 1 (by omega)
        rw [itm_no (no_has (fun i hi => by simp [k1] at hi; subst hi; simp))] at this
        exact this
      · have := hc 1 (by omega) 1 (by omega)
        have e : f + 1 + ((1 : Nat) : Int) = (k1 (f + 2) bv2 0).n := by simp [k1]; omega
        rw [e, itm_eq (by simp [Apart]) (by simp)] at this
        exact this
  have htf2 : tf wt wt = 0 := tf_mk (by omega) (by omega) (by omega)
  have H5 : Hid (∀ W b mb y, 0 ≤ y → y ≤ f + 1 → OrderAt W b mb wt wt (f + 3) [] → OM.Inv wt (f + 3) [] → Calls Try.prog 12 #[.pointer (some ⟨b, 0, none⟩), .int .i64 y, .agg #[.int .i64 0, .int .i64 0, .int .i64 0, .int .i64 0, .bool false, .slice none 0 0], .int .i64 wt] W fun e w' => e = .returned (.tuple #[.bool false, .nilIface]) ∧ OrderAt w' b mb wt wt (f + 3) [] ∧ OM.Inv wt (f + 3) [] ∧ Only [b, mb] W w') :=
    hidden (fun W b mb y hy hy2 hW hI => push_out b mb wt wt (f + 3) y wt [] W hW hI htf2 hy (by omega) (by simp [far]; omega) (by omega) (by simp [kx, has]; omega))
  have H6 : Hid (∀ W b mb, OrderAt W b mb wt wt (f + 3) [] → OM.Inv wt (f + 3) [] → Calls Try.prog 13 #[.pointer (some ⟨b, 0, none⟩), .int .i64 wt] W fun e w' => ∃ av cv, e = .returned (.tuple #[.slice av 0 cv, .nilIface]) ∧ OrderAt w' b mb wt wt (f + 3) [] ∧ OM.Inv wt (f + 3) [] ∧ Only [b, mb] W w') := by
    refine hidden (fun W b mb hW hI => ?_)
    refine (pop_in b mb wt wt (f + 3) wt (-1) [] [] 0 W hW hI htf2 ⟨by omega, by simp, .inl rfl⟩ ⟨fun j hj => by omega, ?_⟩ (by omega) (f + 3) (by omega) (by simp [rest])).mono ?_
    · simp [goes, has]
      omega
    · rintro e w' ⟨av, cv, rfl, _, k2, k3, k4⟩
      exact ⟨av, cv, rfl, k2, k3, k4⟩
  clear htf htf2 hnm1
  go_enter Try.func5, Try.ntmps5
  go_wp2_with fail
  refine (H.out _).mono ?_
  rintro e w1 ⟨b, mb, rfl, hb1, hb2, hR, hbl⟩
  have HO1 := hidden hR
  have HB1 := hidden hbl
  clear hR hbl
  go_wp2_with fail
  refine (H1.out _ b mb HO1.out).mono ?_
  rintro e w2 ⟨rfl, bv, hO2, hI2, hN2⟩
  have HO2 := hidden hO2
  have HI2 := hidden hI2
  have HB2 : Hid (Below w.heap.size w w2) := HB1.out.trans (hN2.below HB1.out.size (by simp; omega))
  clear hO2 hI2 hN2 HO1 HB1
  go_wp2_with fail
  refine (H2.out _ b mb bv HO2.out HI2.out).mono ?_
  rintro e w3 ⟨rfl, bv2, hO3, hI3, hN3⟩
  have HO3 := hidden hO3
  have HI3 := hidden hI3
  have HB3 : Hid (Below w.heap.size w w3) := HB2.out.trans (hN3.below HB2.out.size (by simp; omega))
  clear hO3 hI3 hN3 HO2 HI2 HB2
  go_wp2_with fail
  refine (H3.out _ b mb bv bv2 HO3.out HI3.out).mono ?_
  rintro e w4 ⟨av, cv, rfl, hO4, hI4, hN4⟩
  have HO4 := hidden hO4
  have HI4 := hidden hI4
  have HB4 : Hid (Below w.heap.size w w4) := HB3.out.trans (hN4.below HB3.out.size (by simp; omega))
  clear hO4 hI4 hN4 HO3 HI3 HB3
  go_wp2_with fail
  refine (H4.out _ b mb bv2 HO4.out HI4.out).mono ?_
  rintro e w5 ⟨g, cv5, rfl, hc5, hg5, hO5, hI5, hN5⟩
  have HO5 := hidden hO5
  have HI5 := hidden hI5
  have HC5 := hidden hc5
  have hgb : ¬ g = b := by have := HO4.out.lt; omega
  have hgm : ¬ g = mb := by have := HO4.out.lt; omega
  have hgl : g < w5.heap.size := World.block_lt_of_cell? w5 ⟨g, 1, none⟩ hc5.1
  have HB5 : Hid (Below w.heap.size w w5) := HB4.out.trans (hN5.below HB4.out.size (by simp; omega))
  clear hO5 hI5 hN5 HO4 HI4 HB4 hc5 hg5
  go_wp2_with fail
  refine (H5.out _ b mb (f + 1) (by omega) (by omega) HO5.out HI5.out).mono ?_
  rintro e w6 ⟨rfl, hO6, hI6, hN6⟩
  have HO6 := hidden hO6
  have HI6 := hidden hI6
  have HN6 := hidden hN6
  have HB6 : Hid (Below w.heap.size w w6) := HB5.out.trans (hN6.below HB5.out.size (by simp; omega))
  clear hO6 hI6 hN6 HO5 HI5 HB5
  go_wp2_with fail
  refine (H6.out _ b mb HO6.out HI6.out).mono ?_
  rintro e w7 ⟨av7, cv7, rfl, hO7, hI7, hN7⟩
  have HO7 := hidden hO7
  have HI7 := hidden hI7
  have HN7 := hidden (HN6.out.trans hN7)
  have HB7 : Hid (Below w.heap.size w w7) := HB6.out.trans (hN7.below HB6.out.size (by simp; omega))
  clear hO7 hI7 hN7 HO6 HI6 HB6 HN6
  go_wp2_with fail
  refine (H5.out _ b mb f h0 (by omega) HO7.out HI7.out).mono ?_
  rintro e w8 ⟨rfl, hO8, hI8, hN8⟩
  have HN8 := HN7.out.trans hN8
  have HB8 : Hid (Below w.heap.size w w8) := HB7.out.trans (hN8.below HB7.out.size (by simp; omega))
  have c1 : w8.cell? ⟨g, 1, none⟩ = some (.bool true) := by
    have e := HN8.2.2.2.2 g hgl (by simp; omega)
    have := HC5.out.1
    simp only [World.cell?] at this ⊢
    rw [e]; exact this
  have c9 : w8.cell? ⟨g, 9, none⟩ = some (.bool false) := by
    have e := HN8.2.2.2.2 g hgl (by simp; omega)
    have := HC5.out.2
    simp only [World.cell?] at this ⊢
    rw [e]; exact this
  clear hO8 hI8 hN8 HO7 HI7 HB7 HN7 HN8 HC5 H H1 H2 H3 H4 H5 H6
  go_wp2_with fail
  go_ret
  exact ⟨rfl, HB8.out⟩
set_option maxHeartbeats 4000000 in
set_option maxRecDepth 100000 in
theorem walk_time (f wt : Int) (w : World) (h0 : 0 ≤ f) (h1 : f ≤ 1000000) (h2 : 1 ≤ wt) (h3 : wt ≤ 100000) :
    Calls Try.prog 5 #[.int .i64 f, .int .i64 wt, .bool false] w fun e w' => e = .returned (.bool true) ∧ Below w.heap.size w w' := by
  have H := hidden (fun w => new_ok wt w (by omega) (by omega))
  have hnm1 : f ≠ -1 := by omega
  have H1 : Hid (∀ W b mb, OrderAt W b mb wt 0 (-1) [] → Calls Try.prog 12 #[.pointer (some ⟨b, 0, none⟩), .int .i64 f, .agg #[.int .i64 0, .int .i64 0, .int .i64 0, .int .i64 0, .bool false, .slice none 0 0], .int .i64 0] W fun e w' => e = .returned (.tuple #[.bool true, .nilIface]) ∧ ∃ bv, OrderAt w' b mb wt 0 f [k1 f bv 0] ∧ OM.Inv 0 f [k1 f bv 0] ∧ Only [b, mb] W w') :=
    hidden (fun W b mb hW => push_in b mb wt 0 (-1) f 0 [] W hW inv_start rfl h0 (by omega) rfl (by simp [kx, fx, has]))
  have H2 : Hid (∀ W b mb bv, OrderAt W b mb wt 0 f [k1 f bv 0] → OM.Inv 0 f [k1 f bv 0] → Calls Try.prog 12 #[.pointer (some ⟨b, 0, none⟩), .int .i64 (f + 2), .agg #[.int .i64 0, .int .i64 0, .int .i64 0, .int .i64 0, .bool false, .slice none 0 0], .int .i64 0] W fun e w' => e = .returned (.tuple #[.bool true, .nilIface]) ∧ ∃ bv2, OrderAt w' b mb wt 0 f [k1 f bv 0, k1 (f + 2) bv2 0] ∧ OM.Inv 0 f [k1 f bv 0, k1 (f + 2) bv2 0] ∧ Only [b, mb] W w') := by
    refine hidden (fun W b mb bv hW hI => ?_)
    have hfx : fx f (f + 2) = f := by simp [fx, hnm1]
    have := push_in b mb wt 0 f (f + 2) 0 [k1 f bv 0] W hW hI rfl (by omega) (by omega) (by simp [far]; omega) (by rw [hfx]; simp [kx, has, k1]; omega)
    rw [hfx] at this
    exact this
  have H3 : Hid (∀ W b mb bv bv2, OrderAt W b mb wt 0 f [k1 f bv 0, k1 (f + 2) bv2 0] → OM.Inv 0 f [k1 f bv 0, k1 (f + 2) bv2 0] → Calls Try.prog 13 #[.pointer (some ⟨b, 0, none⟩), .int .i64 0] W fun e w' => ∃ av cv, e = .returned (.tuple #[.slice av 1 cv, .nilIface]) ∧ OrderAt w' b mb wt 0 (f + 1) [k1 (f + 2) bv2 0] ∧ OM.Inv 0 (f + 1) [k1 (f + 2) bv2 0] ∧ Only [b, mb] W w') := by
    refine hidden (fun W b mb bv bv2 hW hI => ?_)
    refine (pop_in b mb wt 0 f 0 (-1) _ [k1 (f + 2) bv2 0] 1 W hW hI rfl ⟨by omega, ?_, .inl rfl⟩ ?_ (by omega) (f + 1) (by omega) ?_).mono ?_
    · intro i hi hl
      simp [k1] at hi
      rcases hi with rfl | rfl <;> simp [late] at hl <;> omega
    · rcases st1 (f := f) (bv1 := bv) (bv2 := bv2) with h | h
      · exact h
      · omega
    · unfold rest
      rw [List.filter_cons_of_neg, List.filter_cons_of_pos]
      · rfl
      · simp [k1]
      · rw [decide_eq_true_eq]
        show ¬ f + 1 ≤ f
        omega
    · rintro e w' ⟨av, cv, rfl, _, k2, k3, k4⟩
      exact ⟨av, cv, rfl, k2, k3, k4⟩
  have htf : tf 0 (wt - 1) = 0 := tf_mk (by omega) (by omega) (by omega)
  have H4 : Hid (∀ W b mb bv2, OrderAt W b mb wt 0 (f + 1) [k1 (f + 2) bv2 0] → OM.Inv 0 (f + 1) [k1 (f + 2) bv2 0] → Calls Try.prog 13 #[.pointer (some ⟨b, 0, none⟩), .int .i64 (wt - 1)] W fun e w' => ∃ av cv, e = .returned (.tuple #[.slice av 0 cv, .nilIface]) ∧ OrderAt w' b mb wt (wt - 1) (f + 1) [k1 (f + 2) bv2 0] ∧ OM.Inv (wt - 1) (f + 1) [k1 (f + 2) bv2 0] ∧ Only [b, mb] W w') := by
    refine hidden (fun W b mb bv2 hW hI => ?_)
    refine (pop_in b mb wt 0 (f + 1) (wt - 1) (-1) _ [k1 (f + 2) bv2 0] 0 W hW hI htf ⟨by omega, ?_, .inl rfl⟩ ⟨fun j hj => by omega, ?_⟩ (by omega) (f + 1) (by omega) ?_).mono ?_
    · intro i hi hl
      simp [k1] at hi
      subst hi
      simp [late] at hl
      omega
    · simp [goes, has, k1]
      omega
    · unfold rest
      rw [List.filter_cons_of_pos]
      · rfl
      · rw [decide_eq_true_eq]
        show f + 1 ≤ f + 2
        omega
    · rintro e w' ⟨av, cv, rfl, _, k2, k3, k4⟩
      exact ⟨av, cv, rfl, k2, k3, k4⟩
  have htf2 : tf (wt - 1) (wt - 1) = 0 := tf_mk (by omega) (by omega) (by omega)
  have H5 : Hid (∀ W b mb bv2, OrderAt W b mb wt (wt - 1) (f + 1) [k1 (f + 2) bv2 0] → OM.Inv (wt - 1) (f + 1) [k1 (f + 2) bv2 0] → Calls Try.prog 12 #[.pointer (some ⟨b, 0, none⟩), .int .i64 (f + 1), .agg #[.int .i64 0, .int .i64 0, .int .i64 0, .int .i64 0, .bool false, .slice none 0 0], .int .i64 (wt - 1)] W fun e w' => e = .returned (.tuple #[.bool true, .nilIface]) ∧ ∃ bv3, OrderAt w' b mb wt (wt - 1) (f + 1) [k1 (f + 2) bv2 0, k1 (f + 1) bv3 (wt - 1)] ∧ OM.Inv (wt - 1) (f + 1) [k1 (f + 2) bv2 0, k1 (f + 1) bv3 (wt - 1)] ∧ Only [b, mb] W w') := by
    refine hidden (fun W b mb bv2 hW hI => ?_)
    have hfx : fx (f + 1) (f + 1) = f + 1 := by simp [fx]
    have := push_in b mb wt (wt - 1) (f + 1) (f + 1) (wt - 1) [k1 (f + 2) bv2 0] W hW hI htf2 (by omega) (by omega) (by simp [far]) (by rw [hfx]; simp [kx, has, k1])
    rw [hfx] at this
    exact this
  have H6 : Hid (∀ W b mb bv2 bv3, OrderAt W b mb wt (wt - 1) (f + 1) [k1 (f + 2) bv2 0, k1 (f + 1) bv3 (wt - 1)] → OM.Inv (wt - 1) (f + 1) [k1 (f + 2) bv2 0, k1 (f + 1) bv3 (wt - 1)] → Calls Try.prog 13 #[.pointer (some ⟨b, 0, none⟩), .int .i64 (wt - 1)] W fun e w' => ∃ g cv, e = .returned (.tuple #[.slice (some ⟨g, 0, none⟩) 2 cv, .nilIface]) ∧ (w'.cell? ⟨g, 1, none⟩ = some (.bool false) ∧ w'.cell? ⟨g, 8, none⟩ = some (.int .i64 (f + 2))) ∧ W.heap.size ≤ g ∧ OrderAt w' b mb wt (wt - 1) (f + 3) [] ∧ OM.Inv (wt - 1) (f + 3) [] ∧ Only [b, mb] W w') := by
    refine hidden (fun W b mb bv2 bv3 hW hI => ?_)
    have hone := hI.one
    refine (pop_in b mb wt (wt - 1) (f + 1) (wt - 1) (-1) _ [] 2 W hW hI htf2 ⟨by omega, ?_, .inl rfl⟩ ⟨fun j hj => ?_, ?_⟩ (by omega) (f + 3) (by omega) ?_).mono ?_
    · intro i hi hl
      simp [k1] at hi
      rcases hi with rfl | rfl <;> simp [late] at hl <;> omega
    · simp [goes, has, k1]
      omega
    · simp [goes, has, k1]
      omega
    · unfold rest
      rw [List.filter_cons_of_neg, List.filter_cons_of_neg]
      · rfl
      · rw [decide_eq_true_eq]
        show ¬ f + 3 ≤ f + 1
        omega
      · rw [decide_eq_true_eq]
        show ¬ f + 3 ≤ f + 2
        omega
    · rintro e w' ⟨av, cv, rfl, hr, k2, k3, k4⟩
      obtain ⟨g, rfl, hg, hc⟩ := items_cell hr (by omega)
      refine ⟨g, cv, rfl, ⟨?_, ?_⟩, hg, k2, k3, k4⟩
      · have := hc 0 (by omega) 1 (by omega)
        have e : f + 1 + ((0 : Nat) : Int) = (k1 (f + 1) bv3 (wt - 1)).n := by simp [k1]
        rw [e, itm_eq hone (by simp)] at this
        exact this
      · have := hc 1 (by omega) 0 (by omega)
        have e : f + 1 + ((1 : Nat) : Int) = (k1 (f + 2) bv2 0).n := by simp [k1]; omega
        rw [e, itm_eq hone (by simp)] at this
        exact this
  have H7 : Hid (∀ W b mb, OrderAt W b mb wt (wt - 1) (f + 3) [] → OM.Inv (wt - 1) (f + 3) [] → Calls Try.prog 12 #[.pointer (some ⟨b, 0, none⟩), .int .i64 f, .agg #[.int .i64 0, .int .i64 0, .int .i64 0, .int .i64 0, .bool false, .slice none 0 0], .int .i64 (wt - 1)] W fun e w' => e = .returned (.tuple #[.bool false, .nilIface]) ∧ OrderAt w' b mb wt (wt - 1) (f + 3) [] ∧ OM.Inv (wt - 1) (f + 3) [] ∧ Only [b, mb] W w') :=
    hidden (fun W b mb hW hI => push_out b mb wt (wt - 1) (f + 3) f (wt - 1) [] W hW hI htf2 h0 (by omega) (by simp [far]; omega) (by omega) (by simp [kx, has]; omega))
  clear htf htf2 hnm1
  go_enter Try.func5, Try.ntmps5
  go_wp2_with fail
  refine (H.out _).mono ?_
  rintro e w1 ⟨b, mb, rfl, hb1, hb2, hR, hbl⟩
  have HO1 := hidden hR
  have HB1 := hidden hbl
  clear hR hbl
  go_wp2_with fail
  refine (H1.out _ b mb HO1.out).mono ?_
  rintro e w2 ⟨rfl, bv, hO2, hI2, hN2⟩
  have HO2 := hidden hO2
  have HI2 := hidden hI2
  have HB2 : Hid (Below w.heap.size w w2) := HB1.out.trans (hN2.below HB1.out.size (by simp; omega))
  clear hO2 hI2 hN2 HO1 HB1
  go_wp2_with fail
  refine (H2.out _ b mb bv HO2.out HI2.out).mono ?_
  rintro e w3 ⟨rfl, bv2, hO3, hI3, hN3⟩
  have HO3 := hidden hO3
  have HI3 := hidden hI3
  have HB3 : Hid (Below w.heap.size w w3) := HB2.out.trans (hN3.below HB2.out.size (by simp; omega))
  clear hO3 hI3 hN3 HO2 HI2 HB2
  go_wp2_with fail
  refine (H3.out _ b mb bv bv2 HO3.out HI3.out).mono ?_
  rintro e w4 ⟨av, cv, rfl, hO4, hI4, hN4⟩
  have HO4 := hidden hO4
  have HI4 := hidden hI4
  have HB4 : Hid (Below w.heap.size w w4) := HB3.out.trans (hN4.below HB3.out.size (by simp; omega))
  clear hO4 hI4 hN4 HO3 HI3 HB3
  go_wp2_with fail
  refine (H4.out _ b mb bv2 HO4.out HI4.out).mono ?_
  rintro e w5 ⟨av5, cv5, rfl, hO5, hI5, hN5⟩
  have HO5 := hidden hO5
  have HI5 := hidden hI5
  have HB5 : Hid (Below w.heap.size w w5) := HB4.out.trans (hN5.below HB4.out.size (by simp; omega))
  clear hO5 hI5 hN5 HO4 HI4 HB4
  go_wp2_with fail
  refine (H5.out _ b mb bv2 HO5.out HI5.out).mono ?_
  rintro e w6 ⟨rfl, bv3, hO6, hI6, hN6⟩
  have HO6 := hidden hO6
  have HI6 := hidden hI6
  have HB6 : Hid (Below w.heap.size w w6) := HB5.out.trans (hN6.below HB5.out.size (by simp; omega))
  clear hO6 hI6 hN6 HO5 HI5 HB5
  go_wp2_with fail
  refine (H6.out _ b mb bv2 bv3 HO6.out HI6.out).mono ?_
  rintro e w7 ⟨g, cv7, rfl, hc7, hg7, hO7, hI7, hN7⟩
  have HO7 := hidden hO7
  have HI7 := hidden hI7
  have HC7 := hidden hc7
  have hgb : ¬ g = b := by have := HO6.out.lt; omega
  have hgm : ¬ g = mb := by have := HO6.out.lt; omega
  have hgl : g < w7.heap.size := World.block_lt_of_cell? w7 ⟨g, 1, none⟩ hc7.1
  have HB7 : Hid (Below w.heap.size w w7) := HB6.out.trans (hN7.below HB6.out.size (by simp; omega))
  clear hO7 hI7 hN7 HO6 HI6 HB6 hc7 hg7
  go_wp2_with fail
  refine (H7.out _ b mb HO7.out HI7.out).mono ?_
  rintro e w8 ⟨rfl, hO8, hI8, hN8⟩
  have HB8 : Hid (Below w.heap.size w w8) := HB7.out.trans (hN8.below HB7.out.size (by simp; omega))
  have c1 : w8.cell? ⟨g, 1, none⟩ = some (.bool false) := by
    have e := hN8.2.2.2.2 g hgl (by simp; omega)
    have := HC7.out.1
    simp only [World.cell?] at this ⊢
    rw [e]; exact this
  have c8 : w8.cell? ⟨g, 8, none⟩ = some (.int .i64 (f + 2)) := by
    have e := hN8.2.2.2.2 g hgl (by simp; omega)
    have := HC7.out.2
    simp only [World.cell?] at this ⊢
    rw [e]; exact this
  clear hO8 hI8 hN8 HO7 HI7 HB7 HC7 H H1 H2 H3 H4 H5 H6 H7
  go_wp2_with fail
  go_ret
  exact ⟨rfl, HB8.out⟩
theorem walk (f wt : Int) (lt : Bool) (w : World) :
    Calls Try.prog 5 #[.int .i64 f, .int .i64 wt, .bool lt] w fun e w' => e = .returned (.bool true) ∧ Below w.heap.size w w' := by
  by_cases h : wt < 0 ∨ 1000000 < wt
  · exact walk_err f wt lt w h
  by_cases h2 : f < 0 ∨ 1000000 < f ∨ wt < 1 ∨ 100000 < wt
  · exact walk_far f wt lt w (by omega) (by omega) h2
  cases lt with
  | true => exact walk_late f wt w (by omega) (by omega) (by omega) (by omega)
  | false => exact walk_time f wt w (by omega) (by omega) (by omega) (by omega)
end Go.Proofs.Ytenjemcehhocoad.OLate
