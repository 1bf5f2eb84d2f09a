/-
  The walk of the Go function ViewBumps: it returns true at any view, any node, told up or not. It changes nothing that was there.
-/
import Derived.Test.YtlahlgoknolniafViewF
namespace Go.Proofs.Ytlahlgoknolniaf.VBumps
open Go.ChangeShapes Go.WideShapes Go.ChangeAt Go.RowKit Go.Proofs.Ytlahlgoknolniaf.Mem Go.Proofs.Ytlahlgoknolniaf.VM Go.Proofs.Ytlahlgoknolniaf.View
set_option linter.unusedVariables false

set_option maxHeartbeats 4000000 in
set_option maxRecDepth 100000 in
theorem bad (a : Option Addr) (n cap : Nat) (L : List Mb) (x : Int) (u : Bool) (w : World) (hA : MArg w a n L) (hnA : a = none → n = 0 ∧ cap = 0) (hz : bf L x ≠ 0) :
    Calls Try.prog 5 #[.slice a n cap, .int .i64 x, .bool u] w fun e w' => e = .returned (.bool true) ∧ Below w.heap.size w w' := by
  have HB0 := hidden (bump_calls a n cap L x u w hA hnA)
  have HC : Hid (∀ W, Below w.heap.size w W → Calls Try.prog 14 #[.slice a n cap] W fun e w' => e = .returned (errv (vf L)) ∧ Below W.heap.size W w') := fun W hW => check_calls a n cap L W (hA.below hW)
  have hwhy : vf L ≠ 0 ∨ x < 0 ∨ 15 < x ∨ 0 < n := by
    by_cases h1 : vf L = 0
    · by_cases h2 : 0 ≤ x ∧ x ≤ 15
      · have hv : ver L x = 1000000 := by
          unfold bf at hz
          rw [if_pos h1, if_pos h2] at hz
          by_cases h : ver L x = 1000000
          · exact h
          · rw [if_neg h] at hz; omega
        refine .inr (.inr (.inr ?_))
        rcases Nat.eq_zero_or_pos n with h0 | h0
        · have : L = [] := List.eq_nil_of_length_eq_zero (by rw [hA.2.1, h0])
          rw [this] at hv
          simp [ver, lk] at hv
        · exact h0
      · omega
    · exact .inl h1
  clear hA hnA
  generalize bmp L x u = R at *
  generalize bf L x = f at *
  generalize vf L = f2 at *
  have hcmp := cmp_ne f
  have hgrd := grd_ne f
  have d : decide (f = 0) = false := by simpa using hz
  rw [d] at hcmp
  generalize errv f = ev at *
  clear d hz
  by_cases h1 : f2 = 0
  · subst h1
    rw [errv_zero] at HC
    by_cases h2 : x < 0
    · have d2 : decide (x < 0) = true := by simpa using h2
      clear hwhy
      go_enter Try.func5, Try.ntmps5
      go_wp2_with fail
      refine HB0.out.mono ?_
      rintro e w1 ⟨a1, q1, c1, rfl, _, _, _, hb1⟩
      have HB1 := hidden hb1
      clear hb1 HB0
      go_wp2_with fail
      refine (HC.out _ HB1.out).mono ?_
      rintro e w2 ⟨rfl, hb2⟩
      have HB2 : Hid (Below w.heap.size w w2) := HB1.out.trans (hb2.mono HB1.out.size)
      clear hb2 HC
      go_wp2_with fail
      go_ret
      exact ⟨rfl, HB2.out⟩
    · have d2 : decide (x < 0) = false := by simpa using h2
      by_cases h3 : 15 < x
      · have d3 : decide (15 < x) = true := by simpa using h3
        clear hwhy
        go_enter Try.func5, Try.ntmps5
        go_wp2_with fail
        refine HB0.out.mono ?_
        rintro e w1 ⟨a1, q1, c1, rfl, _, _, _, hb1⟩
        have HB1 := hidden hb1
        clear hb1 HB0
        go_wp2_with fail
        refine (HC.out _ HB1.out).mono ?_
        rintro e w2 ⟨rfl, hb2⟩
        have HB2 : Hid (Below w.heap.size w w2) := HB1.out.trans (hb2.mono HB1.out.size)
        clear hb2 HC
        go_wp2_with fail
        go_ret
        exact ⟨rfl, HB2.out⟩
      · have d3 : decide (15 < x) = false := by simpa using h3
        have hn : 0 < n := by omega
        have hnz : decide ((0 : Int) < (n : Int)) = true := by simp; omega
        have hnz' : decide (0 < n) = true := by simpa using hn
        clear hwhy
        go_enter Try.func5, Try.ntmps5
        go_wp2_with fail
        refine HB0.out.mono ?_
        rintro e w1 ⟨a1, q1, c1, rfl, _, _, _, hb1⟩
        have HB1 := hidden hb1
        clear hb1 HB0
        go_wp2_with fail
        refine (HC.out _ HB1.out).mono ?_
        rintro e w2 ⟨rfl, hb2⟩
        have HB2 : Hid (Below w.heap.size w w2) := HB1.out.trans (hb2.mono HB1.out.size)
        clear hb2 HC
        go_wp2_with fail
        go_ret
        exact ⟨rfl, HB2.out⟩
  · have hcmp2 := cmp_ne f2
    have hgrd2 := grd_ne f2
    have d : decide (f2 = 0) = false := by simpa using h1
    rw [d] at hcmp2
    generalize errv f2 = ev2 at *
    clear d hwhy
    go_enter Try.func5, Try.ntmps5
    go_wp2_with fail
    refine HB0.out.mono ?_
    rintro e w1 ⟨a1, q1, c1, rfl, _, _, _, hb1⟩
    have HB1 := hidden hb1
    clear hb1 HB0
    go_wp2_with fail
    refine (HC.out _ HB1.out).mono ?_
    rintro e w2 ⟨rfl, hb2⟩
    have HB2 : Hid (Below w.heap.size w w2) := HB1.out.trans (hb2.mono HB1.out.size)
    clear hb2 HC
    go_wp2_with fail
    go_ret
    exact ⟨rfl, HB2.out⟩

set_option maxHeartbeats 4000000 in
set_option maxRecDepth 100000 in
theorem good (a : Option Addr) (n cap : Nat) (L : List Mb) (x : Int) (u : Bool) (w : World) (hA : MArg w a n L) (hnA : a = none → n = 0 ∧ cap = 0) (hz : bf L x = 0) :
    Calls Try.prog 5 #[.slice a n cap, .int .i64 x, .bool u] w fun e w' => e = .returned (.bool true) ∧ Below w.heap.size w w' := by
  have HB0 := bump_calls a n cap L x u w hA hnA
  have fL := (bf_zero hz).1
  have fP := put_fit u hz
  have eb : bmp L x u = VM.put L (bm L x u) := by unfold bmp; rw [if_pos hz]
  rw [hz, errv_zero, eb] at HB0
  have m1 : mf L (VM.put L (bm L x u)) = 0 := mf_fit.2 ⟨fL, fP⟩
  have m2 : mf (VM.put L (bm L x u)) L = 0 := mf_fit.2 ⟨fP, fL⟩
  have e1 : mgd L (VM.put L (bm L x u)) = VM.put L (bm L x u) := by unfold mgd; rw [if_pos m1, mrg_up u hz]
  have e2 : mgd (VM.put L (bm L x u)) L = VM.put L (bm L x u) := by unfold mgd; rw [if_pos m2, mrg_comm fP fL, mrg_up u hz]
  have e3 : nwd L (VM.put L (bm L x u)) = [bm L x u] := by unfold nwd; rw [if_pos m1, newer_up u hz]
  have v0 : vf (VM.put L (bm L x u)) = 0 := fit_iff.2 fP
  have e4 : ald (VM.put L (bm L x u)) = alv (VM.put L (bm L x u)) := by unfold ald; rw [if_pos v0]
  have hin : decide (x ∈ alv (VM.put L (bm L x u))) = u := by
    have := alv_up u hz
    cases u with
    | true => exact decide_eq_true (this.2 rfl)
    | false => exact decide_eq_false (fun h => by have := this.1 h; simp at this)
  have hal : (alv (VM.put L (bm L x u))).length ≤ 16 := by
    unfold alv
    rw [List.length_map]
    exact Nat.le_trans (List.length_filter_le _ _) fP.len
  have C1 : ∀ W b q c, Below w.heap.size w W → MArg W b q (VM.put L (bm L x u)) → Calls Try.prog 11 #[.slice a n cap, .slice b q c] W fun e w' => ∃ a' q' c', e = .returned (.tuple #[.slice a' q' c', .nilIface]) ∧ MArg w' a' q' (VM.put L (bm L x u)) ∧ q' ≤ c' ∧ (a' = none → q' = 0 ∧ c' = 0) ∧ Below W.heap.size W w' := fun W b q c hW hb => by
    have := merge_calls a n cap L b q c _ W (hA.below hW) hnA hb
    rw [m1, e1, errv_zero] at this
    exact this
  have C2 : ∀ W b q c, Below w.heap.size w W → MArg W b q (VM.put L (bm L x u)) → (b = none → q = 0 ∧ c = 0) → Calls Try.prog 11 #[.slice b q c, .slice a n cap] W fun e w' => ∃ a' q' c', e = .returned (.tuple #[.slice a' q' c', .nilIface]) ∧ MArg w' a' q' (VM.put L (bm L x u)) ∧ q' ≤ c' ∧ (a' = none → q' = 0 ∧ c' = 0) ∧ Below W.heap.size W w' := fun W b q c hW hb hn => by
    have := merge_calls b q c _ a n cap L W hb hn (hA.below hW)
    rw [m2, e2, errv_zero] at this
    exact this
  have C3 : ∀ W b q c, Below w.heap.size w W → MArg W b q (VM.put L (bm L x u)) → Calls Try.prog 13 #[.slice a n cap, .slice b q c] W fun e w' => ∃ a' q' c', e = .returned (.tuple #[.slice a' q' c', .nilIface]) ∧ MArg w' a' q' [bm L x u] ∧ q' ≤ c' ∧ (a' = none → q' = 0 ∧ c' = 0) ∧ Below W.heap.size W w' := fun W b q c hW hb => by
    have := newer_calls a n cap L b q c _ W (hA.below hW) hb
    rw [m1, e3, errv_zero] at this
    exact this
  have C4 : ∀ W b q c, MArg W b q (VM.put L (bm L x u)) → Calls Try.prog 15 #[.slice b q c] W fun e w' => ∃ a' q' c', e = .returned (.tuple #[.slice a' q' c', .nilIface]) ∧ IArg w' a' q' (alv (VM.put L (bm L x u))) ∧ q' ≤ c' ∧ Below W.heap.size W w' := fun W b q c hb => by
    have := alive_calls b q c _ W hb
    rw [v0, e4, errv_zero] at this
    exact this
  have C5 : ∀ W b q c, MArg W b q (VM.put L (bm L x u)) → Calls Try.prog 14 #[.slice b q c] W fun e w' => e = .returned .nilIface ∧ Below W.heap.size W w' := fun W b q c hb => by
    have := check_calls b q c _ W hb
    rw [v0, errv_zero] at this
    exact this
  have H0 := hidden HB0
  have H1 := hidden C1
  have H2 := hidden C2
  have H3 := hidden C3
  have H4 := hidden C4
  have H5 := hidden C5
  have HIN := hidden hin
  have hbn : (bm L x u).n = x := rfl
  have hbu : (bm L x u).u = u := rfl
  clear HB0 C1 C2 C3 C4 C5 m1 m2 e1 e2 e3 e4 v0 eb hin fL fP hA hnA hz
  generalize bm L x u = m at *
  generalize VM.put L m = R at *
  generalize alv R = AL at *
  obtain ⟨x', y, u'⟩ := m
  simp only at hbn hbu
  subst hbn hbu
  go_enter Try.func5, Try.ntmps5
  go_wp2_with fail
  refine H0.out.mono ?_
  rintro e w1 ⟨a1, q1, c1, rfl, hR1, _, hn1, hb1⟩
  have HW1 := hidden hb1
  have HR1 := hidden hR1
  have HN1 := hidden hn1
  clear hb1 hR1 hn1 H0
  go_wp2_with fail
  refine (H1.out _ _ _ _ HW1.out HR1.out).mono ?_
  rintro e w2 ⟨a2, q2, c2, rfl, hR2, _, _, hb2⟩
  have HW2 : Hid (Below w.heap.size w w2) := HW1.out.trans (hb2.mono HW1.out.size)
  have HR12 := hidden (HR1.out.below hb2)
  have HR2 := hidden hR2
  clear hb2 hR2 HR1 HW1 H1
  go_wp2_with fail
  refine (H2.out _ _ _ _ HW2.out HR12.out HN1.out).mono ?_
  rintro e w3 ⟨a3, q3, c3, rfl, hR3, _, _, hb3⟩
  have HW3 : Hid (Below w.heap.size w w3) := HW2.out.trans (hb3.mono HW2.out.size)
  have HR13 := hidden (HR12.out.below hb3)
  have HR23 := hidden (HR2.out.below hb3)
  have HR3 := hidden hR3
  clear hb3 hR3 HR12 HR2 HW2 H2 HN1
  obtain rfl : R.length = q1 := HR13.out.2.1
  obtain rfl : R.length = q2 := HR23.out.2.1
  obtain rfl : R.length = q3 := HR3.out.2.1
  go_wp2_with fail
  refine (mbrs_same a1 a2 R.length c1 c2 R _ HR13.out HR23.out).mono ?_
  rintro e w4 ⟨rfl, hb4⟩
  have HW4 : Hid (Below w.heap.size w w4) := HW3.out.trans (hb4.mono HW3.out.size)
  have HR14 := hidden (HR13.out.below hb4)
  have HR34 := hidden (HR3.out.below hb4)
  clear hb4 HR13 HR23 HR3 HW3
  go_wp2_with fail
  refine (mbrs_same a1 a3 R.length c1 c3 R _ HR14.out HR34.out).mono ?_
  rintro e w5 ⟨rfl, hb5⟩
  have HW5 : Hid (Below w.heap.size w w5) := HW4.out.trans (hb5.mono HW4.out.size)
  have HR15 := hidden (HR14.out.below hb5)
  clear hb5 HR14 HR34 HW4
  go_wp2_with fail
  refine (H3.out _ _ _ _ HW5.out HR15.out).mono ?_
  rintro e w6 ⟨a6, q6, c6, rfl, hR6, _, _, hb6⟩
  have HW6 : Hid (Below w.heap.size w w6) := HW5.out.trans (hb6.mono HW5.out.size)
  have HR16 := hidden (HR15.out.below hb6)
  have HR6 := hidden hR6
  clear hb6 hR6 HR15 HW5 H3
  go_wp2_with fail
  refine (H4.out _ _ _ _ HR16.out).mono ?_
  rintro e w7 ⟨a7, q7, c7, rfl, hI7, _, hb7⟩
  have HW7 : Hid (Below w.heap.size w w7) := HW6.out.trans (hb7.mono HW6.out.size)
  have HR17 := hidden (HR16.out.below hb7)
  have HR67 := hidden (HR6.out.below hb7)
  have HI7 := hidden hI7
  clear hb7 hI7 HR16 HR6 HW6 H4
  obtain rfl : 1 = q6 := HR67.out.2.1
  obtain rfl : AL.length = q7 := HI7.out.2.1
  obtain ⟨b6, o6, rfl, _, hc6⟩ := HR67.out.at (by omega)
  obtain ⟨g0, g1, g2⟩ := hc6 0 (by omega)
  clear hc6 HR67
  have k0 : w7.cell? ⟨b6, o6, none⟩ = some (.int .i64 x') := g0
  have k2 : w7.cell? ⟨b6, o6 + 2, none⟩ = some (.bool u') := g2
  clear g0 g1 g2
  go_wp2_with fail
  go_loopg [19, 20] AL.length (fun g s y wr => ∃ (j : Nat) (t : Bool), j + g = AL.length ∧ s = .bool t ∧ y = .int .i64 (j : Int) ∧ Hid (t = decide (x' ∈ AL.take j)) ∧ Hid (Below w7.heap.size w7 wr))
  case atStart => exact ⟨0, false, by omega, rfl, rfl, hidden (by simp), Below.refl _ _⟩
  case round =>
    obtain ⟨j, t, hjg, rfl, rfl, HT, HW⟩ := hrel
    by_cases hj : j < AL.length
    · have hjz : (j : Int) < (AL.length : Int) := by omega
      obtain ⟨b7, o7, rfl, hc7⟩ := (HI7.out.below HW.out).at (by omega)
      have hc := hc7 j hj
      clear hc7
      have htk : AL.take (j + 1) = AL.take j ++ [AL.getD j 0] := by
        rw [List.getD_eq_getElem?_getD, List.getElem?_eq_getElem hj, Option.getD_some, List.take_append_getElem hj]
      obtain ⟨z, hzz⟩ : ∃ z, AL.getD j 0 = z := ⟨_, rfl⟩
      rw [hzz] at hc htk
      have HN : Hid ((t || decide (z = x')) = decide (x' ∈ AL.take (j + 1))) := by
        rw [HT.out, htk]
        unfold Hid
        by_cases h : x' ∈ AL.take j
        · simp [h]
        · simp [h, eq_comm]
      clear hzz htk HT
      cases t with
      | true =>
        go_wp2_with fail
        go_roundg (AL.length - (j + 1))
        case measure => omega
        case rel => exact ⟨j + 1, true, by omega, rfl, by go_num, hidden (by rw [← HN.out]; rfl), HW⟩
      | false =>
        by_cases hzx : z = x'
        · subst hzx
          go_wp2_with fail
          go_roundg (AL.length - (j + 1))
          case measure => omega
          case rel => exact ⟨j + 1, true, by omega, by simp, by go_num, hidden (by rw [← HN.out]; simp), HW⟩
        · have hne : (z == x') = false := by simpa using hzx
          go_wp2_with fail
          go_roundg (AL.length - (j + 1))
          case measure => omega
          case rel => exact ⟨j + 1, false, by omega, rfl, by go_num, hidden (by rw [← HN.out]; simp [hzx]), HW⟩
    · have hjz : ¬ (j : Int) < (AL.length : Int) := by omega
      have ej : AL.length ≤ j := by omega
      have et : t = u' := by rw [HT.out, List.take_of_length_le ej]; exact HIN.out
      subst et
      have HR1r := hidden (HR17.out.below HW.out)
      have HWr : Hid (Below w.heap.size w wr) := HW7.out.trans (HW.out.mono HW7.out.size)
      clear HT HIN
      go_wp2_with fail
      refine (H5.out _ _ _ _ HR1r.out).mono ?_
      rintro e w8 ⟨rfl, hb8⟩
      have HW8 : Hid (Below w.heap.size w w8) := HWr.out.trans (hb8.mono HWr.out.size)
      clear hb8
      go_wp2_with fail
      go_ret
      exact ⟨rfl, HW8.out⟩
theorem walk (a : Option Addr) (n cap : Nat) (L : List Mb) (x : Int) (u : Bool) (w : World) (hA : MArg w a n L) (hnA : a = none → n = 0 ∧ cap = 0) :
    Calls Try.prog 5 #[.slice a n cap, .int .i64 x, .bool u] w fun e w' => e = .returned (.bool true) ∧ Below w.heap.size w w' := by
  by_cases hz : bf L x = 0
  · exact good a n cap L x u w hA hnA hz
  · exact bad a n cap L x u w hA hnA hz
end Go.Proofs.Ytlahlgoknolniaf.VBumps
