/-
  The library's ContainsFunc at edges; what Check of package tree returns. They change nothing that was there.
-/
import Derived.Test.YtpiamlgmadnepaaGreatTreeA
namespace Go.Proofs.YtpiamlgmadnepaaGreat.Tree
open Go.ChangeShapes Go.WideShapes Go.ChangeAt Go.RowKit Go.Proofs.YtpiamlgmadnepaaGreat.Mem Go.Proofs.YtpiamlgmadnepaaGreat.TM
set_option linter.unusedVariables false

set_option maxHeartbeats 2000000 in
set_option maxRecDepth 100000 in
theorem idxE_calls (a : Option Addr) (n cap : Nat) (L : List Ed) (B : Nat) (e : Ed) (w : World) (h : EArg w a n L) (hb : EBox w B e) :
    Calls Tryz.prog 96 #[.slice a n cap, .func (.func 52) #[] #[.pointer (some ⟨B, 0, none⟩)]] w fun r w' => ∃ i : Int, r = .returned (.int .i64 i) ∧ decide (0 ≤ i) = L.any (fun f => two f e) ∧ Below w.heap.size w w' := by
  have hl := h.2.1
  have hn := h.2.2
  have HA := hidden h
  have HX := hidden hb
  clear h hb
  obtain ⟨q, hq⟩ : ∃ q, L.any (fun f => two f e) = q := ⟨_, rfl⟩
  have HQ : Hid ((L.drop 0).any (fun f => two f e) = q) := by unfold Hid; rw [List.drop_zero]; exact hq
  rw [hq]
  clear hq
  go_enter Tryz.func96, Tryz.ntmps96
  go_wp2_with fail
  go_loopg [8] n (fun g x wr => ∃ j : Nat, j + g = n ∧ x = .int .i64 (j : Int) ∧ Hid ((L.drop j).any (fun f => two f e) = q) ∧ Hid (Below w.heap.size w wr))
  case atStart => exact ⟨0, by omega, rfl, HQ, Below.refl _ _⟩
  case round =>
    obtain ⟨j, hjg, rfl, HK, HW⟩ := hrel
    by_cases hj : j < n
    · have hjz : (j : Int) < (n : Int) := by omega
      obtain ⟨b, o, rfl, hbl, hcs⟩ := (HA.out.below HW.out).at (by omega)
      obtain ⟨c0, c1, c2⟩ := hcs j hj
      have hk := HK.out
      rw [drop_cons (by omega), List.any_cons] at hk
      have C := hidden (fun m => cl_calls m e B wr (HX.out.below HW.out HX.out.lt))
      obtain ⟨m, hm⟩ : ∃ m, L.getD j zz = m := ⟨_, rfl⟩
      rw [hm] at c0 c1 c2 hk
      have C := hidden (C.out m)
      clear hm hcs HK
      obtain ⟨x, y, u⟩ := m
      simp only [mv] at c0 c1 c2 C
      cases ht : two ⟨x, y, u⟩ e with
      | true =>
        rw [ht] at C hk
        simp only [Bool.true_or] at hk
        have HK := hidden hk
        clear hk ht
        go_wp2_with fail
        refine C.out.mono ?_
        rintro r w1 ⟨rfl, hw1⟩
        have HW1 : Hid (Below w.heap.size w w1) := HW.out.trans (hw1.mono HW.out.size)
        clear hw1
        go_wp2_with fail
        go_ret
        exact ⟨(j : Int), rfl, by rw [← HK.out]; simp, HW1.out⟩
      | false =>
        rw [ht] at C hk
        simp only [Bool.false_or] at hk
        have HK := hidden hk
        clear hk ht
        go_wp2_with fail
        refine C.out.mono ?_
        rintro r w1 ⟨rfl, hw1⟩
        have HW1 : Hid (Below w.heap.size w w1) := HW.out.trans (hw1.mono HW.out.size)
        clear hw1
        go_wp2_with fail
        go_roundg (n - (j + 1))
        case measure => omega
        case rel => exact ⟨j + 1, by omega, by go_num, HK, HW1⟩
    · have hjz : ¬ (j : Int) < (n : Int) := by omega
      have hk := HK.out
      rw [List.drop_eq_nil_of_le (by omega), List.any_nil] at hk
      have HK := hidden hk
      clear hk
      go_wp2_with fail
      go_ret
      exact ⟨-1, rfl, by rw [← HK.out]; simp, HW.out⟩
set_option maxHeartbeats 2000000 in
theorem contE_calls (a : Option Addr) (n cap : Nat) (L : List Ed) (B : Nat) (e : Ed) (w : World) (h : EArg w a n L) (hb : EBox w B e) :
    Calls Tryz.prog 51 #[.slice a n cap, .func (.func 52) #[] #[.pointer (some ⟨B, 0, none⟩)]] w fun r w' => r = .returned (.bool (L.any (fun f => two f e))) ∧ Below w.heap.size w w' := by
  have C := hidden (idxE_calls a n cap L B e w h hb)
  obtain ⟨q, hq⟩ : ∃ q, L.any (fun f => two f e) = q := ⟨_, rfl⟩
  rw [hq] at C ⊢
  clear hq h hb
  go_enter Tryz.func51, Tryz.ntmps51
  go_wp2_with fail
  refine C.out.mono ?_
  rintro r w1 ⟨i, rfl, hi, hw1⟩
  have HW := hidden hw1
  clear hw1
  cases q with
  | true =>
    go_wp2_with fail
    go_ret
    exact ⟨rfl, HW.out⟩
  | false =>
    go_wp2_with fail
    go_ret
    exact ⟨rfl, HW.out⟩
theorem EArg.take {w : World} {a : Option Addr} {n j : Nat} {L : List Ed} (h : EArg w a n L) (hj : j ≤ n) : EArg w a j (L.take j) := by
  have hl := h.2.1
  refine ⟨fun i hi => ?_, by rw [List.length_take]; omega, by have := h.2.2; omega⟩
  rw [List.length_take] at hi
  have e : (L.take j).getD i zz = L.getD i zz := by
    rw [List.getD_eq_getElem?_getD, List.getD_eq_getElem?_getD, List.getElem?_take, if_pos (by omega)]
  rw [e]
  exact h.1 i (by omega)
set_option maxHeartbeats 4000000 in
set_option maxRecDepth 100000 in
theorem check_calls (N : Int) (a : Option Addr) (n cap : Nat) (L : List Ed) (w : World) (h : EArg w a n L) (hnc : n ≤ cap) :
    Calls Tryz.prog 15 #[.int .i64 N, .slice a n cap] w fun e w' => e = .returned (errv (ef N L)) ∧ Below w.heap.size w w' := by
  have hl := h.2.1
  have hn := h.2.2
  have HA := hidden h
  clear h
  by_cases h0 : N < 1
  · have HE : Hid (ef N L = 1) := by unfold Hid ef; rw [if_pos (by omega)]
    generalize ef N L = f at *
    have d : decide (N < 1) = true := by simpa using h0
    go_enter Tryz.func15, Tryz.ntmps15
    go_wp2_with fail
    go_ret
    exact ⟨by rw [HE.out]; rfl, Below.refl _ _⟩
  have d0 : decide (N < 1) = false := by simpa using h0
  by_cases h00 : 16 < N
  · have HE : Hid (ef N L = 1) := by unfold Hid ef; rw [if_pos (by omega)]
    generalize ef N L = f at *
    have d : decide (16 < N) = true := by simpa using h00
    go_enter Tryz.func15, Tryz.ntmps15
    go_wp2_with fail
    go_ret
    exact ⟨by rw [HE.out]; rfl, Below.refl _ _⟩
  have d00 : decide (16 < N) = false := by simpa using h00
  by_cases h16 : 200 < n
  · have HE : Hid (ef N L = 4) := by unfold Hid ef; rw [if_neg (by omega), if_pos (by omega)]
    generalize ef N L = f at *
    have d : decide (200 < (n : Int)) = true := by simp; omega
    go_enter Tryz.func15, Tryz.ntmps15
    go_wp2_with fail
    go_ret
    exact ⟨by rw [HE.out]; rfl, Below.refl _ _⟩
  · have HE : Hid (ck N (L.take 0) (L.drop 0) = ef N L) := by unfold Hid ef; rw [if_neg (by omega), if_neg (by omega), List.drop_zero, List.take_zero]
    generalize ef N L = f at *
    have d : decide (200 < (n : Int)) = false := by simp; omega
    go_enter Tryz.func15, Tryz.ntmps15
    go_wp2_with fail
    go_loopg [20] n (fun g x wr => ∃ j : Nat, j + g = n ∧ x = .int .i64 (j : Int) ∧ Hid (ck N (L.take j) (L.drop j) = f) ∧ Hid (Below w.heap.size w wr))
    case atStart => exact ⟨0, by omega, rfl, HE, Below.refl _ _⟩
    case round =>
      obtain ⟨j, hjg, rfl, HK, HW⟩ := hrel
      by_cases hj : j < n
      · have hjz : (j : Int) < (n : Int) := by omega
        obtain ⟨b, o, rfl, hbl, hcs⟩ := (HA.out.below HW.out).at (by omega)
        obtain ⟨c0, c1, c2⟩ := hcs j hj
        have hk := HK.out
        have hts := take_succ (L := L) (j := j) (by omega)
        rw [drop_cons (by omega), ck] at hk
        obtain ⟨m, hm⟩ : ∃ m, L.getD j zz = m := ⟨_, rfl⟩
        rw [hm] at c0 c1 c2 hk hts
        clear hm hcs HK
        have C := hidden (fun w => isEdge_calls N m w)
        have HB : Hid (∀ O, Below w.heap.size w (wr.alloc O)) := fun O => below_alloc HW.out O
        have HX : Hid (EBox (wr.alloc (.cells #[.int .i64 m.a, .int .i64 m.b, .int .i64 m.c] 87)) wr.heap.size m) := EBox.new wr m
        have HT := hidden hts
        clear hts
        obtain ⟨x, y, u⟩ := m
        simp only [mv] at c0 c1 c2 C HX
        cases hok : okE N ⟨x, y, u⟩ with
        | false =>
          rw [hok] at C hk
          simp only [if_true] at hk
          have HK := hidden hk
          clear hk hok
          go_wp2_with fail
          refine (C.out _).mono ?_
          rintro e w1 ⟨rfl, hw1⟩
          have HW1 : Hid (Below w.heap.size w w1) := (HB.out _).trans (hw1.mono (HB.out (.cells #[.int .i64 x, .int .i64 y, .int .i64 u] 87)).size)
          clear hw1
          go_wp2_with fail
          go_ret
          exact ⟨by rw [← HK.out]; rfl, HW1.out⟩
        | true =>
          rw [hok] at C hk
          rw [if_neg (by simp)] at hk
          go_wp2_with fail
          refine (C.out _).mono ?_
          rintro e w1 ⟨rfl, hw1⟩
          have HW1 : Hid (Below w.heap.size w w1) := (HB.out _).trans (hw1.mono (HB.out (.cells #[.int .i64 x, .int .i64 y, .int .i64 u] 87)).size)
          have HX1 : Hid (EBox w1 wr.heap.size ⟨x, y, u⟩) := HX.out.below hw1 HX.out.lt
          have HA1 := hidden ((HA.out.below HW1.out).take (j := j) (by omega))
          have C2 := hidden (contE_calls (some ⟨b, o, none⟩) j cap (L.take j) wr.heap.size ⟨x, y, u⟩ w1 HA1.out HX1.out)
          clear hw1
          cases ht : (L.take j).any (fun f => two f ⟨x, y, u⟩) with
          | true =>
            rw [ht] at C2 hk
            simp only [if_true] at hk
            have HK := hidden hk
            clear hk ht hok
            go_wp2_with fail
            refine C2.out.mono ?_
            rintro e w2 ⟨rfl, hw2⟩
            have HW2 : Hid (Below w.heap.size w w2) := HW1.out.trans (hw2.mono HW1.out.size)
            clear hw2
            go_wp2_with fail
            go_ret
            exact ⟨by rw [← HK.out]; rfl, HW2.out⟩
          | false =>
            rw [ht] at C2 hk
            rw [if_neg (by simp), ← HT.out] at hk
            have HK := hidden hk
            clear hk ht hok
            go_wp2_with fail
            refine C2.out.mono ?_
            rintro e w2 ⟨rfl, hw2⟩
            have HW2 : Hid (Below w.heap.size w w2) := HW1.out.trans (hw2.mono HW1.out.size)
            clear hw2
            go_wp2_with fail
            go_roundg (n - (j + 1))
            case measure => omega
            case rel => exact ⟨j + 1, by omega, by go_num, HK, HW2⟩
      · have hjz : ¬ (j : Int) < (n : Int) := by omega
        have hk := HK.out
        rw [List.drop_eq_nil_of_le (by omega), ck] at hk
        have HK := hidden hk
        clear hk
        go_wp2_with fail
        go_ret
        exact ⟨by rw [← HK.out]; rfl, HW.out⟩
end Go.Proofs.YtpiamlgmadnepaaGreat.Tree

