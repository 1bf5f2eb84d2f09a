/-
  The walk of the Go function GapsNone: it returns true at any numbers.
-/
import Derived.Test.YtnnehhgdinclgadGapsE
import Derived.LoopTactic
namespace Go.Proofs.Ytnnehhgdinclgad.GNone
open Go.ChangeShapes Go.WideShapes Go.ChangeAt Go.RowKit Go.Proofs.Ytnnehhgdinclgad.Mem Go.Proofs.Ytnnehhgdinclgad.GM Go.Proofs.Ytnnehhgdinclgad.Gaps
set_option linter.unusedVariables false

/-- where i numbers are done: all came but the one that is left out -/
def GN (frm many out i T : Int) (M : Its) (nw : Int) : Prop :=
  nw ≤ i ∧ ((i = 0 ∧ T = -1 ∧ M = []) ∨ (0 < i ∧ ¬ (0 < out ∧ out < many - 1 ∧ out < i) ∧ T = frm + i - 1 ∧ M = []) ∨ (0 < out ∧ out < many - 1 ∧ i = out + 1 ∧ T = frm + i - 2 ∧ M = []) ∨
    (0 < out ∧ out < many - 1 ∧ out + 1 < i ∧ T = frm + i - 1 ∧ M = [⟨frm + out, 0, 0⟩]))
theorem gn_skip {frm many out i T nw : Int} {M : Its} (h : GN frm many out i T M nw) (h1 : i = out) (h2 : 0 < i) (h3 : i < many - 1) : GN frm many out (i + 1) T M nw := by
  obtain ⟨h0, h⟩ := h
  refine ⟨by omega, ?_⟩
  rcases h with h | h | h | h
  · omega
  · exact .inr (.inr (.inl ⟨by omega, by omega, by omega, by omega, h.2.2.2⟩))
  · omega
  · omega
theorem gn_hear {frm many out i T nw : Int} {M : Its} (h : GN frm many out i T M nw) (h1 : ¬ (i = out ∧ 0 < i ∧ i < many - 1)) (hf0 : 0 ≤ frm) (hf1 : frm ≤ 1000000) (hm : many ≤ 100) (hi : 0 ≤ i) (him : i < many) :
    hf nw T M (frm + i) i = 0 ∧ hB nw T M (frm + i) i = true ∧ GN frm many out (i + 1) (hU nw T M (frm + i) i) (hL nw T M (frm + i) i) (hN nw T M (frm + i) i) := by
  obtain ⟨h0, h⟩ := h
  have ht : tf nw i = 0 := by unfold tf; rw [if_neg (by omega), if_neg (by omega)]
  have key : ∀ k : Nat, lo T (frm + i) = (k : Int) → M.length + k ≤ 200 → T < frm + i → hf nw T M (frm + i) i = 0 ∧ hB nw T M (frm + i) i = true ∧ hU nw T M (frm + i) i = frm + i ∧ hL nw T M (frm + i) i = M ++ fresh T k ∧ hN nw T M (frm + i) i = i := by
    intro k hk hl hT
    have e : hf nw T M (frm + i) i = 0 := by unfold hf; rw [if_neg (by simp [ht]), if_neg (by omega), if_neg (by rw [hk]; omega)]
    refine ⟨e, by simp [hB, hx, e, hT], by simp [hU, GM.hT, e, hT], by simp [hL, hM, e, hT, hk], by simp [hN, e]⟩
  have l0 : ∀ {t : Int}, T = t → frm + i - t - 1 = 0 → lo T (frm + i) = ((0 : Nat) : Int) := by
    intro t e1 e2
    unfold lo
    split <;> omega
  rcases h with ⟨q1, q2, rfl⟩ | ⟨q1, q2, q3, rfl⟩ | ⟨q1, q2, q3, q4, rfl⟩ | ⟨q1, q2, q3, q4, rfl⟩
  · obtain ⟨r1, r2, r3, r4, r5⟩ := key 0 (by unfold lo; rw [if_pos (.inl q2)]; rfl) (by simp) (by omega)
    refine ⟨r1, r2, by omega, ?_⟩
    rw [r3, r4]
    exact .inr (.inl ⟨by omega, by omega, by omega, by simp [fresh]⟩)
  · obtain ⟨r1, r2, r3, r4, r5⟩ := key 0 (l0 q3 (by omega)) (by simp) (by omega)
    refine ⟨r1, r2, by omega, ?_⟩
    rw [r3, r4]
    exact .inr (.inl ⟨by omega, by omega, by omega, by simp [fresh]⟩)
  · obtain ⟨r1, r2, r3, r4, r5⟩ := key 1 (by unfold lo; rw [if_neg (by omega)]; omega) (by simp) (by omega)
    refine ⟨r1, r2, by omega, ?_⟩
    rw [r3, r4]
    refine .inr (.inr (.inr ⟨by omega, by omega, by omega, by omega, ?_⟩))
    have : T + 1 = frm + out := by omega
    simp [fresh, this]
  · obtain ⟨r1, r2, r3, r4, r5⟩ := key 0 (l0 q4 (by omega)) (by simp) (by omega)
    refine ⟨r1, r2, by omega, ?_⟩
    rw [r3, r4]
    exact .inr (.inr (.inr ⟨by omega, by omega, by omega, by omega, by simp [fresh]⟩))
/-- at the end: what lacks -/
theorem gn_end {frm many out T nw : Int} {M : Its} (h : GN frm many out many T M nw) (hm : 1 ≤ many) : T = frm + many - 1 ∧ nw ≤ many ∧ ((0 < out ∧ out < many - 1) → M = [⟨frm + out, 0, 0⟩]) ∧ (¬ (0 < out ∧ out < many - 1) → M = []) := by
  obtain ⟨h0, h⟩ := h
  rcases h with h | h | h | h
  · omega
  · exact ⟨by omega, h0, fun q => by omega, fun _ => h.2.2.2⟩
  · omega
  · exact ⟨by omega, h0, fun _ => h.2.2.2.2, fun q => by omega⟩
theorem gn_again {frm many T nw : Int} {M : Its} (hT : T = frm + many - 1) (hn : nw ≤ many) (hm1 : 1 ≤ many) (hm : many ≤ 100) (hf0 : 0 ≤ frm) (hf1 : frm ≤ 1000000) (hl : M.length ≤ 1) (hno : ∀ x ∈ M, x.n ≠ frm) :
    hf nw T M frm many = 0 ∧ hB nw T M frm many = false ∧ hU nw T M frm many = T ∧ hL nw T M frm many = M ∧ hN nw T M frm many = many := by
  have ht : tf nw many = 0 := by unfold tf; rw [if_neg (by omega), if_neg (by omega)]
  have hk : lo T frm = 0 := by unfold lo; rw [if_pos (.inr (by omega))]
  have e : hf nw T M frm many = 0 := by unfold hf; rw [if_neg (by simp [ht]), if_neg (by omega), if_neg (by rw [hk]; omega)]
  have hn' : ¬ T < frm := by omega
  have hh : has M frm = false := by
    rw [Bool.eq_false_iff]
    intro q
    obtain ⟨i, hi, e⟩ := has_iff.1 q
    exact hno i hi e
  refine ⟨e, by simp [hB, hx, hn', hh], by simp [hU, GM.hT, e, hn'], ?_, by simp [hN, e]⟩
  simp only [hL, e, if_true, hM, hn', if_false]
  rw [List.filter_eq_self]
  intro i hi
  simpa using hno i hi

/-- under way -/
structure NSt (w wr : World) (b mb : Nat) (frm many out i T : Int) (M : Its) (nw : Int) : Prop where
  bel : Below w.heap.size w wr
  b1 : w.heap.size ≤ b
  b2 : w.heap.size ≤ mb
  gaps : GapsAt wr b mb 3 3 nw T M (.slice none 0 0) []
  inv : GM.Inv 3 3 nw T M
  gn : GN frm many out i T M nw
theorem new33 (w : World) : Calls Try.prog 5 #[.int .i64 3, .int .i64 3] w fun e w' => ∃ b mb, e = .returned (.tuple #[.pointer (some ⟨b, 0, none⟩), .nilIface]) ∧ w.heap.size ≤ b ∧ w.heap.size ≤ mb ∧ GapsAt w' b mb 3 3 0 (-1) [] (.slice none 0 0) [] ∧ Below w.heap.size w w' := new_ok 3 3 w (by decide) (by decide) (by decide) (by decide)

set_option maxHeartbeats 1000000 in
theorem walk_out (frm many out : Int) (w : World) (h : frm < 0 ∨ 1000000 < frm ∨ many < 1 ∨ 100 < many) :
    Calls Try.prog 3 #[.int .i64 frm, .int .i64 many, .int .i64 out] w fun e w' => e = .returned (.bool true) ∧ Below w.heap.size w w' := by
  have HN := hidden new33
  by_cases c : frm < 0
  · clear h
    go_enter Try.func3, Try.ntmps3
    go_wp2_with fail
    refine (HN.out _).mono ?_
    rintro e w1 ⟨b, mb, rfl, hb1, hb2, hR, hbl⟩
    clear hR
    go_wp2_with fail
    go_ret
    exact ⟨rfl, hbl⟩
  by_cases c1 : 1000000 < frm
  · clear h
    go_enter Try.func3, Try.ntmps3
    go_wp2_with fail
    refine (HN.out _).mono ?_
    rintro e w1 ⟨b, mb, rfl, hb1, hb2, hR, hbl⟩
    clear hR
    go_wp2_with fail
    go_ret
    exact ⟨rfl, hbl⟩
  by_cases c2 : many < 1
  · clear h
    go_enter Try.func3, Try.ntmps3
    go_wp2_with fail
    refine (HN.out _).mono ?_
    rintro e w1 ⟨b, mb, rfl, hb1, hb2, hR, hbl⟩
    clear hR
    go_wp2_with fail
    go_ret
    exact ⟨rfl, hbl⟩
  · have c3 : 100 < many := by omega
    clear h
    go_enter Try.func3, Try.ntmps3
    go_wp2_with fail
    refine (HN.out _).mono ?_
    rintro e w1 ⟨b, mb, rfl, hb1, hb2, hR, hbl⟩
    clear hR
    go_wp2_with fail
    go_ret
    exact ⟨rfl, hbl⟩

set_option maxHeartbeats 4000000 in
set_option maxRecDepth 100000 in
theorem walk_in (frm many out : Int) (w : World) (hf0 : 0 ≤ frm) (hf1 : frm ≤ 1000000) (hm0 : 1 ≤ many) (hm1 : many ≤ 100) :
    Calls Try.prog 3 #[.int .i64 frm, .int .i64 many, .int .i64 out] w fun e w' => e = .returned (.bool true) ∧ Below w.heap.size w w' := by
  have HN := hidden new33
  obtain ⟨n, hn⟩ : ∃ n : Nat, many = (n : Int) := ⟨many.toNat, by omega⟩
  subst hn
  go_enter Try.func3, Try.ntmps3
  go_wp2_with fail
  refine (HN.out _).mono ?_
  rintro e w1 ⟨b, mb, rfl, hb1, hb2, hR, hbl⟩
  have HS0 : Hid (NSt w w1 b mb frm n out 0 (-1) [] 0) := ⟨hbl, hb1, hb2, hR, inv_start (by decide) (by decide) (by decide) (by decide), by omega, .inl ⟨rfl, rfl, rfl⟩⟩
  clear hR hbl HN
  go_wp2_with fail
  go_loopg [9, 10, 11] n (fun g i' _ _ wr => ∃ (i : Nat) (T : Int) (M : Its) (nw : Int), i + g = n ∧ i' = .int .i64 (i : Int) ∧ Hid (NSt w wr b mb frm n out i T M nw))
  case atStart => exact ⟨0, -1, [], 0, by omega, rfl, HS0⟩
  case round =>
    obtain ⟨i, T, M, nw, hig, rfl, HS⟩ := hrel
    clear HS0
    by_cases hi : i < n
    · have hiz : (i : Int) < (n : Int) := by omega
      by_cases hsk : (i : Int) = out ∧ (0 : Int) < i ∧ (i : Int) < n - 1
      · obtain ⟨k1, k2, k3⟩ := hsk
        have d1 : ((i : Int) == out) = true := by simpa using k1
        have HS2 := hidden ({ HS.out with gn := gn_skip HS.out.gn k1 k2 k3 } : NSt w wr b mb frm n out (i + 1) T M nw)
        clear k1
        go_wp2_with fail
        go_roundg (n - (i + 1))
        case measure => omega
        case rel => exact ⟨i + 1, T, M, nw, by omega, by go_num, by simpa using HS2⟩
      · obtain ⟨g1, g2, g3⟩ := gn_hear HS.out.gn hsk hf0 hf1 hm1 (by omega) hiz
        have hC := fun w h => hear_calls b mb 3 3 nw T (frm + i) i M (.slice none 0 0) [] w h HS.out.inv
        rw [g1, g2, errv_zero] at hC
        have HC := hidden hC
        have HGn := hidden g3
        have HI2 := hidden (inv_hear2 (y := frm + i) (now := i) HS.out.inv)
        clear hC g1 g2 g3
        generalize hU nw T M (frm + i) i = T' at *
        generalize hL nw T M (frm + i) i = M' at *
        generalize hN nw T M (frm + i) i = nw' at *
        have HS2 : Hid (∀ w', GapsAt w' b mb 3 3 nw' T' M' (.slice none 0 0) [] → Only [b, mb] wr w' → NSt w w' b mb frm n out (i + 1) T' M' nw') := by
          refine hidden (fun w' hg ho => ⟨HS.out.bel.trans (ho.below HS.out.bel.size ?_), hb1, hb2, hg, HI2.out, HGn.out⟩)
          intro k hk
          simp at hk
          omega
        by_cases d0 : (i : Int) = out
        · have d1 : ((i : Int) == out) = true := by simpa using d0
          by_cases d2 : (0 : Int) < i
          · have d3 : ¬ (i : Int) < n - 1 := fun q => hsk ⟨d0, d2, q⟩
            clear hsk d0
            go_wp2_with fail
            refine (HC.out _ (by exact HS.out.gaps)).mono ?_
            rintro e w2 ⟨rfl, hg, ho⟩
            have HF := hidden (HS2.out _ hg ho)
            clear hg ho
            go_wp2_with fail
            go_roundg (n - (i + 1))
            case measure => omega
            case rel => exact ⟨i + 1, T', M', nw', by omega, by go_num, by simpa using HF⟩
          · clear hsk d0
            go_wp2_with fail
            refine (HC.out _ (by exact HS.out.gaps)).mono ?_
            rintro e w2 ⟨rfl, hg, ho⟩
            have HF := hidden (HS2.out _ hg ho)
            clear hg ho
            go_wp2_with fail
            go_roundg (n - (i + 1))
            case measure => omega
            case rel => exact ⟨i + 1, T', M', nw', by omega, by go_num, by simpa using HF⟩
        · have d1 : ((i : Int) == out) = false := by simpa using d0
          clear hsk d0
          go_wp2_with fail
          refine (HC.out _ (by exact HS.out.gaps)).mono ?_
          rintro e w2 ⟨rfl, hg, ho⟩
          have HF := hidden (HS2.out _ hg ho)
          clear hg ho
          go_wp2_with fail
          go_roundg (n - (i + 1))
          case measure => omega
          case rel => exact ⟨i + 1, T', M', nw', by omega, by go_num, by simpa using HF⟩
    · have hiz : ¬ (i : Int) < (n : Int) := by omega
      obtain rfl : i = n := by omega
      obtain ⟨eT, en, eS, eN⟩ := gn_end HS.out.gn hm0
      by_cases hs : 0 < out ∧ out < (i : Int) - 1
      · obtain ⟨k1, k2⟩ := hs
        have eM := eS ⟨k1, k2⟩
        obtain ⟨g1, g2, g3, g4, g5⟩ := gn_again (M := M) eT en hm0 hm1 hf0 hf1 (by rw [eM]; simp) (by rw [eM]; intro x hx; simp only [List.mem_singleton] at hx; subst hx; simp only; omega)
        have hC := fun w h => hear_calls b mb 3 3 nw T frm i M (.slice none 0 0) [] w h HS.out.inv
        have hI2 := inv_hear2 (y := frm) (now := i) HS.out.inv
        rw [g3, g4, g5] at hI2
        rw [g1, g2, g3, g4, g5, errv_zero] at hC
        have hD := fun w h => due_calls b mb 3 3 i T i M (.slice none 0 0) [] w h hI2 (by simp)
        have ht : tf (i : Int) i = 0 := by unfold tf; rw [if_neg (by omega), if_neg (by omega)]
        have hdd : dD 3 3 (i : Int) M i = [frm + out] := by
          unfold dD
          rw [if_pos ht, eM]
          simp [dueL, asks, stays, nums]
        rw [ht, hdd, errv_zero] at hD
        have HC := hidden hC
        have HD := hidden hD
        clear hC hD g1 g2 g3 g4 g5 hI2 ht hdd eT en eS eN eM
        go_wp2_with fail
        refine (HC.out _ (by exact HS.out.gaps)).mono ?_
        rintro e w2 ⟨rfl, hg, ho⟩
        have HG2 := hidden hg
        have HB2 : Hid (Below w.heap.size w w2) := HS.out.bel.trans (ho.below HS.out.bel.size (by intro k hk; simp at hk; omega))
        clear hg ho
        go_wp2_with fail
        refine (HD.out _ (by exact HG2.out)).mono ?_
        rintro e w3 ⟨dv, rfl, gv2, hg3, hrow, hgb, ho3⟩
        obtain ⟨a, cap, rfl, hA, _⟩ := own_ints (L := [frm + out]) hrow (by simp)
        obtain ⟨ab, ao, rfl, hcell⟩ := hA.at (by simp)
        have c0 := hcell 0 (by simp)
        simp only [List.getD_cons_zero, Nat.add_zero] at c0
        have HB3 : Hid (Below w.heap.size w w3) := HB2.out.trans (ho3.below HB2.out.size (by intro k hk; simp [blks, Value.ownBlock] at hk; omega))
        clear hg3 hrow hgb ho3 hA hcell
        go_wp2_with fail
        go_ret
        exact ⟨by simp, HB3.out⟩
      · have eM := eN hs
        subst eM
        obtain ⟨g1, g2, g3, g4, g5⟩ := gn_again (M := []) eT en hm0 hm1 hf0 hf1 (by simp) (by simp)
        have hC := fun w h => hear_calls b mb 3 3 nw T frm i [] (.slice none 0 0) [] w h HS.out.inv
        have hI2 := inv_hear2 (y := frm) (now := i) HS.out.inv
        rw [g3, g4, g5] at hI2
        rw [g1, g2, g3, g4, g5, errv_zero] at hC
        have hD := fun w h => due_calls b mb 3 3 i T i [] (.slice none 0 0) [] w h hI2 (by simp)
        have ht : tf (i : Int) i = 0 := by unfold tf; rw [if_neg (by omega), if_neg (by omega)]
        have hdd : dD 3 3 (i : Int) [] i = [] := by
          unfold dD
          rw [if_pos ht]
          simp [dueL, nums]
        have hdl : dL 3 3 (i : Int) [] i = [] := by
          unfold dL
          rw [if_pos ht]
          simp [dM]
        have hdg : dG 3 3 (i : Int) [] i = [] := by
          unfold dG
          rw [if_pos ht]
          simp [gaveL, nums]
        have hdn : dN (i : Int) i = i := by unfold dN; split <;> rfl
        rw [ht, hdd, hdl, hdg, hdn, errv_zero] at hD
        have HC := hidden hC
        have HD := hidden hD
        have HLk := hidden (fun w gv h => lacks_calls b mb 3 3 i T [] gv [] w h List.Pairwise.nil (by simp))
        clear hC hD g1 g2 g3 g4 g5 hI2 ht hdd hdl hdg hdn eT en eS eN
        by_cases k1 : 0 < out
        · have k2 : ¬ out < (i : Int) - 1 := fun q => hs ⟨k1, q⟩
          clear hs
          go_wp2_with fail
          refine (HC.out _ (by exact HS.out.gaps)).mono ?_
          rintro e w2 ⟨rfl, hg, ho⟩
          have HG2 := hidden hg
          have HB2 : Hid (Below w.heap.size w w2) := HS.out.bel.trans (ho.below HS.out.bel.size (by intro k hk; simp at hk; omega))
          clear hg ho
          go_wp2_with fail
          refine (HD.out _ (by exact HG2.out)).mono ?_
          rintro e w3 ⟨dv, rfl, gv2, hg3, hrow, hgb, ho3⟩
          obtain ⟨a, cap, rfl, hA, _⟩ := own_ints (L := []) hrow (by simp)
          have HB3 : Hid (Below w.heap.size w w3) := HB2.out.trans (ho3.below HB2.out.size (by intro k hk; simp [blks, Value.ownBlock] at hk; omega))
          have HG3 := hidden hg3
          clear hg3 hrow hgb ho3 hA
          go_wp2_with fail
          refine (HLk.out _ gv2 (by exact HG3.out)).mono ?_
          rintro e w4 ⟨lv, rfl, hrow, hb4⟩
          obtain ⟨a4, cap4, rfl, hA, _⟩ := own_ints (L := []) hrow (by simp)
          have HB4 : Hid (Below w.heap.size w w4) := HB3.out.trans (hb4.mono HB3.out.size)
          clear hrow hb4 hA
          go_wp2_with fail
          go_ret
          exact ⟨by simp, HB4.out⟩
        · clear hs
          go_wp2_with fail
          refine (HC.out _ (by exact HS.out.gaps)).mono ?_
          rintro e w2 ⟨rfl, hg, ho⟩
          have HG2 := hidden hg
          have HB2 : Hid (Below w.heap.size w w2) := HS.out.bel.trans (ho.below HS.out.bel.size (by intro k hk; simp at hk; omega))
          clear hg ho
          go_wp2_with fail
          refine (HD.out _ (by exact HG2.out)).mono ?_
          rintro e w3 ⟨dv, rfl, gv2, hg3, hrow, hgb, ho3⟩
          obtain ⟨a, cap, rfl, hA, _⟩ := own_ints (L := []) hrow (by simp)
          have HB3 : Hid (Below w.heap.size w w3) := HB2.out.trans (ho3.below HB2.out.size (by intro k hk; simp [blks, Value.ownBlock] at hk; omega))
          have HG3 := hidden hg3
          clear hg3 hrow hgb ho3 hA
          go_wp2_with fail
          refine (HLk.out _ gv2 (by exact HG3.out)).mono ?_
          rintro e w4 ⟨lv, rfl, hrow, hb4⟩
          obtain ⟨a4, cap4, rfl, hA, _⟩ := own_ints (L := []) hrow (by simp)
          have HB4 : Hid (Below w.heap.size w w4) := HB3.out.trans (hb4.mono HB3.out.size)
          clear hrow hb4 hA
          go_wp2_with fail
          go_ret
          exact ⟨by simp, HB4.out⟩

theorem walk (frm many out : Int) (w : World) :
    Calls Try.prog 3 #[.int .i64 frm, .int .i64 many, .int .i64 out] w fun e w' => e = .returned (.bool true) ∧ Below w.heap.size w w' := by
  by_cases h : frm < 0 ∨ 1000000 < frm ∨ many < 1 ∨ 100 < many
  · exact walk_out frm many out w h
  · exact walk_in frm many out w (by omega) (by omega) (by omega) (by omega)
end Go.Proofs.Ytnnehhgdinclgad.GNone
