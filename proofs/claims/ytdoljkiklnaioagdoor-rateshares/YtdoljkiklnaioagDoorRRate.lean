/-
  What the reference's Rates, given and Fair return, and what the function Ints of package choirsame returns of rows that are the same. They change nothing that was there.
-/
import Derived.Test.YtdoljkiklnaioagDoorRateC
import Derived.Deep.LoopGhost
namespace Go.Proofs.YtdoljkiklnaioagDoor.Rate
open Go.ChangeShapes Go.WideShapes Go.ChangeAt Go.RowKit Go.Proofs.YtdoljkiklnaioagDoor.Mem Go.Proofs.YtdoljkiklnaioagDoor.RT
set_option linter.unusedVariables false

set_option maxHeartbeats 1000000 in
set_option maxRecDepth 100000 in
theorem ints_same (a b : Option Addr) (n cap cap' : Nat) (L : List Int) (w : World) (hA : IArg w a n L) (hB : IArg w b n L) :
    Calls Tryd.prog 19 #[.slice a n cap, .slice b n cap'] w fun e w' => e = .returned (.bool true) ∧ Below w.heap.size w w' := by
  have hn := hA.2.2
  have HA := hidden hA
  have HB := hidden hB
  clear hA hB
  go_enter Tryd.func19, Tryd.ntmps19
  go_wp2_with fail
  go_loopg [5] n (fun g y wr => ∃ (i : Nat), i + g = n ∧ y = .int .i64 (i : Int) ∧ Hid (Below w.heap.size w wr))
  case atStart => exact ⟨0, by omega, rfl, Below.refl _ _⟩
  case round =>
    obtain ⟨i, hig, rfl, HW⟩ := hrel
    by_cases hi : i < n
    · have hiz : (i : Int) < (n : Int) := by omega
      obtain ⟨b1, o1, rfl, h1⟩ := (HA.out.below HW.out).at (by omega)
      obtain ⟨b2, o2, rfl, h2⟩ := (HB.out.below HW.out).at (by omega)
      have c1 := h1 i hi
      have c2 := h2 i hi
      clear h1 h2
      generalize L.getD i 0 = x at *
      go_wp2_with fail
      go_quiet (fail)
      go_wp2_with fail
      go_roundg (n - (i + 1))
      case measure => omega
      case rel => exact ⟨i + 1, by omega, by go_num, hidden (below_drewN HW.out _)⟩
    · have hiz : ¬ (i : Int) < (n : Int) := by omega
      go_wp2_with fail
      go_ret
      exact ⟨rfl, HW.out⟩
set_option maxHeartbeats 2000000 in
set_option maxRecDepth 100000 in
theorem rates_calls (A : Int) (a : Option Addr) (n cap k : Nat) (L : List Int) (w : World) (h : IArg w a n L) (hk : k ≤ 1000) :
    Calls Tryd.prog 22 #[.int .i64 A, .slice a n cap, .int .i64 (k : Int)] w fun e w' => e = .returned (.int .i64 (rf A L k : Int)) ∧ w' = w := by
  have hl := h.2.1
  have hn := h.2.2
  have HA := hidden h
  clear h
  by_cases hb : k < n
  · have e : rf A L k = 4 := rf_big (by omega)
    have hz : (k : Int) < (n : Int) := by omega
    rw [e]
    clear e
    go_enter Tryd.func22, Tryd.ntmps22
    go_wp2_with fail
    go_ret
    exact ⟨rfl, rfl⟩
  have hz : ¬ (k : Int) < (n : Int) := by omega
  have H0 := hidden (fun p q => rf_none (A := A) (L := L) (k := k) (by omega) p q)
  have H1 := hidden (fun p => rf_all (A := A) (L := L) (k := k) (by omega) p)
  have H2 := hidden (fun p => rf_any (A := A) (L := L) (k := k) (by omega) p)
  obtain ⟨q, hq⟩ : ∃ q, L.any bad = q := ⟨_, rfl⟩
  have HQ : Hid ((L.drop 0).any bad = q) := by unfold Hid; rw [List.drop_zero]; exact hq
  rw [hq] at H0 H2
  generalize rf A L k = f at *
  clear hq
  go_enter Tryd.func22, Tryd.ntmps22
  go_wp2_with fail
  go_loopg [7] n (fun g x wr => ∃ j : Nat, j + g = n ∧ x = .int .i64 (j : Int) ∧ Hid ((L.drop j).any bad = q) ∧ w = wr)
  case atStart => exact ⟨0, by omega, rfl, HQ, rfl⟩
  case round =>
    clear HQ
    obtain ⟨j, hjg, rfl, HK, rfl⟩ := hrel
    by_cases hj : j < n
    · have hjz : (j : Int) < (n : Int) := by omega
      obtain ⟨b, o, rfl, hcs⟩ := HA.out.at (by omega)
      have c0 := hcs j hj
      have hk' := HK.out
      rw [drop_int (by omega), List.any_cons] at hk'
      obtain ⟨x, hx⟩ : ∃ x, L.getD j 0 = x := ⟨_, rfl⟩
      rw [hx] at c0 hk'
      clear hx hcs HK
      by_cases p : x < 0
      · have d : decide (x < 0) = true := by simpa using p
        have hf : f = 1 := H2.out (by rw [← hk']; unfold bad; rw [d]; rfl)
        have HF := hidden hf
        clear hk' hf
        go_wp2_with fail
        go_ret
        exact ⟨by rw [HF.out]; rfl, rfl⟩
      have d : decide (x < 0) = false := by simpa using p
      by_cases p1 : 1000000 < x
      · have d1 : decide (1000000 < x) = true := by simpa using p1
        have hf : f = 1 := H2.out (by rw [← hk']; unfold bad; rw [d, d1]; rfl)
        have HF := hidden hf
        clear hk' hf
        go_wp2_with fail
        go_ret
        exact ⟨by rw [HF.out]; rfl, rfl⟩
      have d1 : decide (1000000 < x) = false := by simpa using p1
      have HK : Hid ((L.drop (j + 1)).any bad = q) := by unfold Hid; rw [← hk']; unfold bad; rw [d, d1]; rfl
      clear hk'
      go_wp2_with fail
      go_roundg (n - (j + 1))
      case measure => omega
      case rel => exact ⟨j + 1, by omega, by go_num, HK, rfl⟩
    · have hjz : ¬ (j : Int) < (n : Int) := by omega
      have hk' := HK.out
      rw [List.drop_eq_nil_of_le (by omega), List.any_nil] at hk'
      by_cases p : A < 0
      · have d : decide (A < 0) = true := by simpa using p
        have HF : Hid (f = 1) := H1.out (by unfold bad; rw [d]; rfl)
        clear hk'
        go_wp2_with fail
        go_ret
        exact ⟨by rw [HF.out]; rfl, rfl⟩
      have d : decide (A < 0) = false := by simpa using p
      by_cases p1 : 1000000 < A
      · have d1 : decide (1000000 < A) = true := by simpa using p1
        have HF : Hid (f = 1) := H1.out (by unfold bad; rw [d, d1]; rfl)
        clear hk'
        go_wp2_with fail
        go_ret
        exact ⟨by rw [HF.out]; rfl, rfl⟩
      have d1 : decide (1000000 < A) = false := by simpa using p1
      have HF : Hid (f = 0) := H0.out (by unfold bad; rw [d, d1]; rfl) hk'.symm
      clear hk'
      go_wp2_with fail
      go_ret
      exact ⟨by rw [HF.out]; rfl, rfl⟩
theorem gv_get : ∀ (L : List Int) (j : Nat) (m : Int), j < L.length → gv (L.take (j + 1)) m = gv (L.take j) m + (if L.getD j 0 < m then L.getD j 0 else m)
  | [], j, m, h => absurd h (by simp)
  | x :: L, 0, m, _ => by simp [gv]
  | x :: L, j + 1, m, h => by
    have := gv_get L j m (by simpa using h)
    simp only [List.take_succ_cons, gv, List.getD_cons_succ] at this ⊢
    omega
theorem gv_take_bounds {m : Int} (h0 : 0 ≤ m) (h1 : m ≤ 1000000) : ∀ (L : List Int) (j : Nat), Rts L → 0 ≤ gv (L.take j) m ∧ gv (L.take j) m ≤ 1000000 * (j : Int)
  | [], j, _ => by simp [gv]; omega
  | x :: L, 0, _ => by simp [gv]
  | x :: L, j + 1, h => by
    have := gv_take_bounds h0 h1 L j h.tail
    have := h.head
    simp only [List.take_succ_cons, gv]
    split <;> omega
set_option maxHeartbeats 2000000 in
set_option maxRecDepth 100000 in
theorem given_calls (a : Option Addr) (n cap : Nat) (L : List Int) (m : Int) (w : World) (h : IArg w a n L) (hr : Rts L) (hn : n ≤ 200) (h0 : 0 ≤ m) (h1 : m ≤ 1000000) :
    Calls Tryd.prog 41 #[.slice a n cap, .int .i64 m] w fun e w' => e = .returned (.int .i64 (gv L m)) ∧ w' = w := by
  have hl := h.2.1
  have HA := hidden h
  have HR : Hid (∀ j, j < n → 0 ≤ L.getD j 0 ∧ L.getD j 0 ≤ 1000000) := fun j hj => by
    refine hr _ ?_
    rw [List.getD_eq_getElem?_getD, List.getElem?_eq_getElem (by omega)]
    exact List.getElem_mem _
  have HG := hidden (fun j => gv_take_bounds h0 h1 L j hr)
  clear h hr
  obtain ⟨z, hz⟩ : ∃ z, gv L m = z := ⟨_, rfl⟩
  have HZ := hidden hz
  rw [hz]
  clear hz
  go_enter Tryd.func41, Tryd.ntmps41
  go_wp2_with fail
  go_loopg [5, 6] n (fun g u x wr => ∃ (j : Nat) (s : Int), j + g = n ∧ u = .int .i64 s ∧ x = .int .i64 (j : Int) ∧ Hid (s = gv (L.take j) m) ∧ w = wr)
  case atStart => exact ⟨0, 0, by omega, rfl, rfl, by unfold Hid; simp [gv], rfl⟩
  case round =>
    obtain ⟨j, s, hjg, rfl, rfl, HS, rfl⟩ := hrel
    by_cases hj : j < n
    · have hjz : (j : Int) < (n : Int) := by omega
      obtain ⟨b, o, rfl, hcs⟩ := HA.out.at (by omega)
      have c0 := hcs j hj
      have hx := HR.out j hj
      have hs := HG.out j
      rw [← HS.out] at hs
      have hg := gv_get L j m (by omega)
      rw [← HS.out] at hg
      obtain ⟨x, hxx⟩ : ∃ x, L.getD j 0 = x := ⟨_, rfl⟩
      rw [hxx] at c0 hx hg
      clear hxx hcs HS
      by_cases p : x < m
      · have d : decide (x < m) = true := by simpa using p
        rw [if_pos p] at hg
        have HS := hidden hg.symm
        clear hg
        go_wp2_with fail
        go_roundg (n - (j + 1))
        case measure => omega
        case rel => exact ⟨j + 1, s + x, by omega, by go_num, by go_num, HS, rfl⟩
      · have d : decide (x < m) = false := by simpa using p
        rw [if_neg p] at hg
        have HS := hidden hg.symm
        clear hg
        go_wp2_with fail
        go_roundg (n - (j + 1))
        case measure => omega
        case rel => exact ⟨j + 1, s + m, by omega, by go_num, by go_num, HS, rfl⟩
    · have hjz : ¬ (j : Int) < (n : Int) := by omega
      have HS' : Hid (s = z) := by unfold Hid; rw [HS.out, List.take_of_length_le (by omega), HZ.out]
      clear HS
      go_wp2_with fail
      go_ret
      exact ⟨by rw [← HS'.out]; rfl, rfl⟩
end Go.Proofs.YtdoljkiklnaioagDoor.Rate
