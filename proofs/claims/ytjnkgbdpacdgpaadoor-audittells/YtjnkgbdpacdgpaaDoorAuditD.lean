/-
  What Delay of package audit returns. It changes nothing that was there.
-/
import Derived.Test.YtjnkgbdpacdgpaaDoorAuditC
namespace Go.Proofs.YtjnkgbdpacdgpaaDoor.Audit
open Go.ChangeShapes Go.WideShapes Go.ChangeAt Go.RowKit Go.Proofs.YtjnkgbdpacdgpaaDoor.PM Go.Proofs.YtjnkgbdpacdgpaaDoor.Mem Go.Proofs.YtjnkgbdpacdgpaaDoor.Pack Go.Proofs.YtjnkgbdpacdgpaaDoor.AU
set_option linter.unusedVariables false

theorem isTime_calls (x : Int) (w : World) : Calls Tryd.prog 22 #[.int .i64 x] w fun e w' => e = .returned (.bool (decide (0 ≤ x ∧ x ≤ 1000000))) ∧ w' = w := by
  by_cases h : 0 ≤ x
  · have d : decide (0 ≤ x) = true := by simpa using h
    go_enter Tryd.func22, Tryd.ntmps22
    go_wp2_with fail
    go_ret
    exact ⟨by simp [h], rfl⟩
  · have d : decide (0 ≤ x) = false := by simpa using h
    go_enter Tryd.func22, Tryd.ntmps22
    go_wp2_with fail
    go_ret
    exact ⟨by simp, rfl⟩
set_option maxHeartbeats 4000000 in
set_option maxRecDepth 100000 in
theorem delay_calls (a : Option Addr) (n cap : Nat) (A : List Int) (a2 : Option Addr) (m cap2 : Nat) (B : List Int) (K : Nat) (w : World) (hA : IArg w a n A) (hB : IArg w a2 m B) (hK : DStop A B K) :
    Calls Tryd.prog 14 #[.slice a n cap, .slice a2 m cap2] w fun e w' => e = .returned (.tuple #[.int .i64 (least A B K), .int .i64 (most A B K), errv (dfault A B K)]) ∧ Below w.heap.size w w' := by
  have hl := hA.2.1
  have hm := hB.2.1
  have hn2 := hA.2.2
  have hm2 := hB.2.2
  have HA := hidden hA
  have HB := hidden hB
  have hbad : ∀ f, f ≠ 0 → dfault A B K = f → least A B K = 0 ∧ most A B K = 0 := fun f h e => by unfold least most; rw [if_neg (by omega), if_neg (by omega)]; exact ⟨rfl, rfl⟩
  have hgood : dfault A B K = 0 → least A B K = mn A B n ∧ most A B K = mx A B n := fun e => by unfold least most; rw [if_pos e, if_pos e, hl]; exact ⟨rfl, rfl⟩
  by_cases h1 : 1000 < n
  · have e1 : dfault A B K = 4 := by unfold dfault; rw [if_pos (by omega)]
    rw [(hbad 4 (by omega) e1).1, (hbad 4 (by omega) e1).2, e1, errv_pos (by omega)]
    have d1 : decide (1000 < (n : Int)) = true := by simp; omega
    clear hA hB hK e1 hbad hgood
    go_enter Tryd.func14, Tryd.ntmps14
    go_wp2_with fail
    go_ret3
    exact ⟨rfl, Below.refl _ _⟩
  have d1 : decide (1000 < (n : Int)) = false := by simp; omega
  by_cases h2 : 1000 < m
  · have e1 : dfault A B K = 4 := by unfold dfault; rw [if_pos (by omega)]
    rw [(hbad 4 (by omega) e1).1, (hbad 4 (by omega) e1).2, e1, errv_pos (by omega)]
    have d2 : decide (1000 < (m : Int)) = true := by simp; omega
    clear hA hB hK e1 hbad hgood
    go_enter Tryd.func14, Tryd.ntmps14
    go_wp2_with fail
    go_ret3
    exact ⟨rfl, Below.refl _ _⟩
  have d2 : decide (1000 < (m : Int)) = false := by simp; omega
  by_cases h3 : n ≠ m
  · have e1 : dfault A B K = 3 := by unfold dfault; rw [if_neg (by omega), if_pos (by omega)]
    rw [(hbad 3 (by omega) e1).1, (hbad 3 (by omega) e1).2, e1, errv_pos (by omega)]
    have d3 : ((n : Int) != (m : Int)) = true := by simp; omega
    clear hA hB hK e1 hbad hgood
    go_enter Tryd.func14, Tryd.ntmps14
    go_wp2_with fail
    go_ret3
    exact ⟨rfl, Below.refl _ _⟩
  have e3 : m = n := by omega
  subst e3
  have d3 : ((m : Int) != (m : Int)) = false := by simp
  by_cases h4 : m = 0
  · have e1 : dfault A B K = 5 := by unfold dfault; rw [if_neg (by omega), if_neg (by omega), if_pos (by omega)]
    rw [(hbad 5 (by omega) e1).1, (hbad 5 (by omega) e1).2, e1, errv_pos (by omega)]
    have d4 : ((m : Int) == 0) = true := by simp; omega
    clear hA hB hK e1 hbad hgood
    go_enter Tryd.func14, Tryd.ntmps14
    go_wp2_with fail
    go_ret3
    exact ⟨rfl, Below.refl _ _⟩
  have d4 : ((m : Int) == 0) = false := by simp; omega
  have HF : Hid (K < m → dfault A B K = dfa A B K) := fun h => by unfold dfault; rw [if_neg (by omega), if_neg (by omega), if_neg (by omega), if_pos (by omega)]
  have HF0 : Hid (¬ K < m → dfault A B K = 0) := fun h => by unfold dfault; rw [if_neg (by omega), if_neg (by omega), if_neg (by omega), if_neg (by omega)]
  have HBad := hidden hbad
  have HGood := hidden hgood
  clear hbad hgood
  generalize dfault A B K = f at *
  generalize least A B K = le at *
  generalize most A B K = mo at *
  have HK := hidden hK
  have HT := hidden isTime_calls
  clear hA hB hK h3
  go_enter Tryd.func14, Tryd.ntmps14
  go_wp2_with fail
  go_loopg [4, 5, 30] m (fun g y z x wr => ∃ (i : Nat) (l9 m9 : Int), i + g = m ∧ i ≤ K ∧ y = .int .i64 l9 ∧ z = .int .i64 m9 ∧ x = .int .i64 (i : Int) ∧ Hid (mn A B i = l9 ∧ mx A B i = m9) ∧ wr = w)
  case atStart => exact ⟨0, 1000000, 0, by omega, by omega, rfl, rfl, rfl, ⟨rfl, rfl⟩, rfl⟩
  case round =>
    obtain ⟨i, l9, m9, hig, hiK, rfl, rfl, rfl, HM, rfl⟩ := hrel
    by_cases hi : i < m
    · have hiz : (i : Int) < (m : Int) := by omega
      obtain ⟨b, o, rfl, hcs⟩ := HA.out.at (by omega)
      obtain ⟨b2, o2, rfl, hcs2⟩ := HB.out.at (by omega)
      have c0 := hcs i hi
      have c1 := hcs2 i hi
      have HD : Hid (dfa A B i = df (A.getD i 0) (B.getD i 0)) := rfl
      have HM1 : Hid (mn A B (i + 1) = min l9 (B.getD i 0 - A.getD i 0) ∧ mx A B (i + 1) = max m9 (B.getD i 0 - A.getD i 0)) := by
        unfold Hid
        simp only [mn, mx]
        rw [HM.out.1, HM.out.2]
        exact ⟨rfl, rfl⟩
      generalize A.getD i 0 = x at *
      generalize B.getD i 0 = y at *
      have hbd := hidden (mn_bd (A := A) (B := B) (i := i) (fun j hj => HK.out.hn j (by omega)))
      have hbd2 := hidden (mx_bd (A := A) (B := B) (i := i) (fun j hj => HK.out.hn j (by omega)))
      rw [HM.out.1] at hbd
      rw [HM.out.2] at hbd2
      have HTx := hidden (fun W => isTime_calls x W)
      have HTy := hidden (fun W => isTime_calls y W)
      clear hcs hcs2
      by_cases hx : 0 ≤ x ∧ x ≤ 1000000
      · rw [decide_eq_true hx] at HTx
        by_cases hy : 0 ≤ y ∧ y ≤ 1000000
        · rw [decide_eq_true hy] at HTy
          by_cases hxy : y < x
          · have d5 : decide (y < x) = true := decide_eq_true hxy
            have HR : Hid (dfa A B i = 6) := by rw [HD.out]; unfold df; rw [if_pos ⟨hx.1, hx.2, hy.1, hy.2⟩, if_pos hxy]; rfl
            have HKi : Hid (K = i) := by
              unfold Hid
              rcases Nat.lt_or_ge i K with h | h
              · have := HK.out.hn i h
                rw [HR.out] at this
                omega
              · omega
            have HE : Hid (f = 6) := by
              have h1 := HF.out (by have := HKi.out; omega)
              rw [HKi.out, HR.out] at h1
              exact h1
            have HZ := hidden (HBad.out 6 (by omega) HE.out)
            go_wp2_with fail
            refine (HTx.out _).mono ?_
            rintro e w1 ⟨rfl, rfl⟩
            go_wp2_with fail
            refine (HTy.out _).mono ?_
            rintro e w1 ⟨rfl, rfl⟩
            go_wp2_with fail
            go_ret3
            exact ⟨by rw [HE.out, HZ.out.1, HZ.out.2, errv_pos (by omega)]; rfl, Below.refl _ _⟩
          · have d5 : decide (y < x) = false := decide_eq_false hxy
            have HR : Hid (dfa A B i = 0) := by rw [HD.out]; unfold df; rw [if_pos ⟨hx.1, hx.2, hy.1, hy.2⟩, if_neg hxy]; rfl
            have hiK' : i < K := by
              rcases Nat.lt_or_ge i K with h | h
              · exact h
              · have e : K = i := by omega
                have := HK.out.he (by omega)
                rw [e] at this
                exact absurd HR.out this
            obtain ⟨hx1, hx2⟩ := hx
            obtain ⟨hy1, hy2⟩ := hy
            go_wp2_with fail
            refine (HTx.out _).mono ?_
            rintro e w1 ⟨rfl, rfl⟩
            go_wp2_with fail
            refine (HTy.out _).mono ?_
            rintro e w1 ⟨rfl, rfl⟩
            go_wp2_with fail
            all_goals
              go_roundg (m - (i + 1))
              case measure => omega
              case rel => exact ⟨i + 1, _, _, by omega, by omega, rfl, rfl, by go_num, (by have h1 := HM1.out; show _ ∧ _; rw [h1.1, h1.2]; constructor <;> omega), rfl⟩
        · rw [decide_eq_false hy] at HTy
          have HR : Hid (dfa A B i = 1) := by rw [HD.out]; unfold df; rw [if_neg (by omega)]; rfl
          have HKi : Hid (K = i) := by
            unfold Hid
            rcases Nat.lt_or_ge i K with h | h
            · have := HK.out.hn i h
              rw [HR.out] at this
              omega
            · omega
          have HE : Hid (f = 1) := by
            have h1 := HF.out (by have := HKi.out; omega)
            rw [HKi.out, HR.out] at h1
            exact h1
          have HZ := hidden (HBad.out 1 (by omega) HE.out)
          clear hx hy
          go_wp2_with fail
          refine (HTx.out _).mono ?_
          rintro e w1 ⟨rfl, rfl⟩
          go_wp2_with fail
          refine (HTy.out _).mono ?_
          rintro e w1 ⟨rfl, rfl⟩
          go_wp2_with fail
          go_ret3
          exact ⟨by rw [HE.out, HZ.out.1, HZ.out.2, errv_pos (by omega)]; rfl, Below.refl _ _⟩
      · rw [decide_eq_false hx] at HTx
        have HR : Hid (dfa A B i = 1) := by rw [HD.out]; unfold df; rw [if_neg (by omega)]; rfl
        have HKi : Hid (K = i) := by
          unfold Hid
          rcases Nat.lt_or_ge i K with h | h
          · have := HK.out.hn i h
            rw [HR.out] at this
            omega
          · omega
        have HE : Hid (f = 1) := by
          have h1 := HF.out (by have := HKi.out; omega)
          rw [HKi.out, HR.out] at h1
          exact h1
        have HZ := hidden (HBad.out 1 (by omega) HE.out)
        clear hx
        go_wp2_with fail
        refine (HTx.out _).mono ?_
        rintro e w1 ⟨rfl, rfl⟩
        go_wp2_with fail
        go_ret3
        exact ⟨by rw [HE.out, HZ.out.1, HZ.out.2, errv_pos (by omega)]; rfl, Below.refl _ _⟩
    · have hiz : ¬ (i : Int) < (m : Int) := by omega
      have hin : i = m := by omega
      have HKi : Hid (K = i) := by unfold Hid; have := HK.out.hk; omega
      have HE := hidden (HF0.out (by have := HKi.out; omega))
      have HZ := hidden (HGood.out HE.out)
      have HMm : Hid (mn A B m = l9 ∧ mx A B m = m9) := by rw [← hin]; exact HM
      clear hin
      go_wp2_with fail
      go_ret3
      exact ⟨by rw [HE.out, HZ.out.1, HZ.out.2, HMm.out.1, HMm.out.2]; rfl, Below.refl _ _⟩
end Go.Proofs.YtjnkgbdpacdgpaaDoor.Audit

