/-
  The walk of the Go function RateFair: it returns true at any number and any row of numbers.
-/
import Derived.Test.YtdoljkiklnaioahRateC
import Derived.Deep.LoopGhost
namespace Go.Proofs.Ytdoljkiklnaioah.RFair
open Go.ChangeShapes Go.WideShapes Go.ChangeAt Go.RowKit Go.Proofs.Ytdoljkiklnaioah.Mem Go.Proofs.Ytdoljkiklnaioah.RT Go.Proofs.Ytdoljkiklnaioah.Rate
set_option linter.unusedVariables false

theorem rts299 : Rts [2, 9, 9] := by
  intro x hx
  simp at hx
  omega
theorem shr299 : shr 10 [2, 9, 9] = [2, 4, 4] := by
  have h := lev_same rts299 (shr_lev (A := 10) rts299 (by omega)) (show Lev 10 [2, 9, 9] 4 0 from ⟨by omega, by omega, by omega, .inr ⟨by decide, by decide⟩⟩)
  exact h.trans (by decide)
theorem lit299 (w : World) : IArg (w.alloc (.cells #[.int .i64 2, .int .i64 9, .int .i64 9] 3)) (some ⟨w.heap.size, 0, none⟩) 3 [2, 9, 9] := by
  have hb := heap_alloc_new w (.cells #[.int .i64 2, .int .i64 9, .int .i64 9] 3)
  refine ⟨fun j hj => ⟨w.heap.size, 0, rfl, ?_⟩, rfl, by omega⟩
  have hj : j < 3 := hj
  rcases (show j = 0 ∨ j = 1 ∨ j = 2 by omega) with rfl | rfl | rfl <;> (simp only [World.cell?, hb]; rfl)
theorem first_calls (w : World) : Calls Try.prog 5 #[.int .i64 10, .slice (some ⟨w.heap.size, 0, none⟩) 3 3] (w.alloc (.cells #[.int .i64 2, .int .i64 9, .int .i64 9] 3)) fun e w' => ∃ g c, e = .returned (.tuple #[.slice (some ⟨g, 0, none⟩) 3 c, .nilIface]) ∧ w'.cell? ⟨g, 0, none⟩ = some (.int .i64 2) ∧ w'.cell? ⟨g, 1, none⟩ = some (.int .i64 4) ∧ w'.cell? ⟨g, 2, none⟩ = some (.int .i64 4) ∧ Below w.heap.size w w' := by
  refine (fair_calls 10 _ 3 3 _ _ (lit299 w)).mono ?_
  rintro e w' (⟨_, v, rfl, h1, h2⟩ | ⟨h, _⟩)
  · rw [shr299] at h1
    obtain ⟨a, c, rfl, hI, hN, _, hg⟩ := own_ints h1 (by omega)
    cases a with
    | none => have := (hN rfl).1; omega
    | some ad =>
      obtain ⟨g, rfl, _⟩ := hg ad rfl
      obtain ⟨b, o, e, hc⟩ := hI.at (by omega)
      rw [Option.some.injEq, Addr.mk.injEq] at e
      obtain ⟨rfl, rfl, _⟩ := e
      exact ⟨g, c, rfl, hc 0 (by omega), hc 1 (by omega), hc 2 (by omega), below_old h2⟩
  · exact absurd (by decide) h
theorem iarg_cell {w : World} {b o n : Nat} {L : List Int} (h : IArg w (some ⟨b, o, none⟩) n L) {j : Nat} (hj : j < n) : w.cell? ⟨b, o + j, none⟩ = some (.int .i64 (L.getD j 0)) := by
  obtain ⟨b', o', e, hc⟩ := h.at (show 0 < n by omega)
  rw [Option.some.injEq, Addr.mk.injEq] at e
  obtain ⟨rfl, rfl, _⟩ := e
  exact hc j hj
/-- what is known of the shares -/
structure Sh (A : Int) (n : Nat) (L S : List Int) : Prop where
  ll : L.length = n
  sl : S.length = n
  n2 : n ≤ 200
  one : ∀ j, j < n → 0 ≤ S.getD j 0 ∧ S.getD j 0 ≤ L.getD j 0 ∧ L.getD j 0 ≤ 1000000
  rts : Rts S
  sum : sm S ≤ A
  all : ∀ j, j < n → S.getD j 0 ≠ L.getD j 0 → sm S = A
  near : ∀ i k, i < n → k < n → S.getD i 0 ≠ L.getD i 0 → S.getD k 0 ≤ S.getD i 0 + 1
theorem sh_of {A : Int} {n : Nat} {L : List Int} (hl : L.length = n) (h : rf A L 200 = 0) : Sh A n L (shr A L) := by
  obtain ⟨h1, hr, a0, a1⟩ := rf_zero h
  have hv := shr_lev hr a0
  have hs : (shr A L).length = n := by unfold shr; rw [sh_len, hl]
  have key : ∀ j, j < n → 0 ≤ (shr A L).getD j 0 ∧ (shr A L).getD j 0 ≤ L.getD j 0 ∧ L.getD j 0 ≤ 1000000 := fun j hj => by
    have o := sh_one hv.m0 (lv A (srt L)).2 L j hr (by omega)
    refine ⟨o.1, o.2.1, (hr _ ?_).2⟩
    rw [List.getD_eq_getElem?_getD, List.getElem?_eq_getElem (by omega)]
    exact List.getElem_mem _
  refine ⟨hl, hs, by omega, key, fun x hx => ?_, (lev_sum hr hv).1, fun j hj => (lev_sum hr hv).2 j (by omega), fun i k hi hk hne => lev_near hr hv i k (by omega) (by omega) hne⟩
  obtain ⟨j, hj, rfl⟩ := List.getElem_of_mem hx
  have := key j (by omega)
  rw [List.getD_eq_getElem?_getD, List.getElem?_eq_getElem hj, Option.getD_some] at this
  omega
set_option maxHeartbeats 8000000 in
set_option maxRecDepth 100000 in
theorem walk (A : Int) (va : Option Addr) (n cn : Nat) (L : List Int) (w : World) (hL : IArg w va n L) :
    Calls Try.prog 3 #[.int .i64 A, .slice va n cn] w fun e w' => e = .returned (.bool true) ∧ Below w.heap.size w w' := by
  have HL := hidden hL
  have hll := hL.2.1
  have C1 := hidden (first_calls w)
  clear hL
  go_enter Try.func3, Try.ntmps3
  go_wp2_with fail
  refine C1.out.mono ?_
  rintro e w1 ⟨g0, c0, rfl, z0, z1, z2, hB⟩
  have HB := hidden hB
  clear hB C1
  have C2 := hidden (fair_calls A va n cn L w1 (HL.out.below HB.out))
  go_wp2_with fail
  refine C2.out.mono ?_
  rintro e w2 (⟨h0, v, rfl, h1, h2⟩ | ⟨h0, rfl, rfl⟩)
  · have hS := sh_of hll h0
    obtain ⟨sa, sc, rfl, hI, -, -, -⟩ := own_ints h1 (by have := hS.n2; omega)
    have HB2 : Hid (Below w.heap.size w w2) := HB.out.trans (h2.mono HB.out.size)
    have HI := hidden hI
    have HL2 := hidden (HL.out.below HB2.out)
    generalize shr A L = S at *
    have hsl := hS.sl
    have hn2 := hS.n2
    have HS := hidden hS
    clear h0 h1 h2 hI hS z0 z1 z2 HB C2 HL
    go_wp2_with fail
    go_loopg [9, 10] n (fun g u x wr => ∃ (j : Nat) (q : Int), j + g = n ∧ u = .int .i64 q ∧ x = .int .i64 (j : Int) ∧ Hid (q = sm (S.take j)) ∧ Hid (Below w2.heap.size w2 wr))
    case atStart => exact ⟨0, 0, by omega, rfl, rfl, by unfold Hid; simp [sm], Below.refl _ _⟩
    case round =>
      obtain ⟨j, q, hjg, rfl, rfl, HQ, HW⟩ := hrel
      by_cases hj : j < n
      · have hjz : (j : Int) < (n : Int) := by omega
        obtain ⟨b1, o1, rfl, -⟩ := HI.out.at (by omega)
        obtain ⟨b2, o2, rfl, -⟩ := HL2.out.at (by omega)
        have HC1 : Hid (∀ W, Below w2.heap.size w2 W → W.cell? ⟨b1, o1 + j, none⟩ = some (.int .i64 (S.getD j 0))) := fun W hW => iarg_cell (HI.out.below hW) hj
        have HC2 : Hid (∀ W, Below w2.heap.size w2 W → W.cell? ⟨b2, o2 + j, none⟩ = some (.int .i64 (L.getD j 0))) := fun W hW => iarg_cell (HL2.out.below hW) hj
        have ho := HS.out.one j hj
        have hq1 := sm_take_bounds S j HS.out.rts
        rw [← HQ.out] at hq1
        have HQ1 : Hid (q + S.getD j 0 = sm (S.take (j + 1))) := by unfold Hid; rw [sm_get S j (by omega), HQ.out]
        generalize S.getD j 0 = s at *
        generalize L.getD j 0 = x at *
        have d1 : decide (s < 0) = false := by simpa using ho.1
        have d2 : decide (x < s) = false := by simpa using ho.2.1
        have c1 := HC1.out wr HW.out
        have c2 := HC2.out wr HW.out
        clear HQ
        go_wp2_with fail
        go_quiet (fail)
        obtain ⟨w3, hw3⟩ : ∃ w3, wr.drewN nq = w3 := ⟨_, rfl⟩
        have HW3 : Hid (Below w2.heap.size w2 w3) := by rw [← hw3]; exact below_drewN' HW.out _
        rw [hw3]
        clear hw3 c1 c2 HW
        have c1 := HC1.out w3 HW3.out
        go_wp2_with fail
        go_roundg (n - (j + 1))
        case measure => omega
        case rel => exact ⟨j + 1, q + s, by omega, rfl, by go_num, HQ1, HW3⟩
      · have hjz : ¬ (j : Int) < (n : Int) := by omega
        obtain rfl : j = n := by omega
        have hq : q = sm S := by rw [HQ.out, List.take_of_length_le (by omega)]
        have hqa : q ≤ A := by rw [hq]; exact HS.out.sum
        have HQ2 := hidden hq
        have d0 : decide (A < q) = false := by simpa using hqa
        clear hq hqa HQ
        go_wp2_with fail
        go_loopg [11] j (fun g x wr => ∃ (i : Nat), i + g = j ∧ x = .int .i64 (i : Int) ∧ Hid (Below w2.heap.size w2 wr))
        case atStart => exact ⟨0, by omega, rfl, HW⟩
        case round =>
          clear HW
          obtain ⟨i, hig, rfl, HW⟩ := hrel
          by_cases hi : i < j
          · have hiz : (i : Int) < (j : Int) := by omega
            obtain ⟨b1, o1, rfl, -⟩ := HI.out.at (by omega)
            obtain ⟨b2, o2, rfl, -⟩ := HL2.out.at (by omega)
            have HC1 : Hid (∀ W, Below w2.heap.size w2 W → W.cell? ⟨b1, o1 + i, none⟩ = some (.int .i64 (S.getD i 0))) := fun W hW => iarg_cell (HI.out.below hW) hi
            have HC2 : Hid (∀ W, Below w2.heap.size w2 W → W.cell? ⟨b2, o2 + i, none⟩ = some (.int .i64 (L.getD i 0))) := fun W hW => iarg_cell (HL2.out.below hW) hi
            have ho := HS.out.one i hi
            have HN : Hid (S.getD i 0 ≠ L.getD i 0 → q = A ∧ ∀ k, k < j → 0 ≤ S.getD k 0 ∧ S.getD k 0 ≤ S.getD i 0 + 1) := fun hne => ⟨by rw [HQ2.out]; exact HS.out.all i hi hne, fun k hk => ⟨(HS.out.one k hk).1, HS.out.near i k hi hk hne⟩⟩
            generalize S.getD i 0 = s at *
            generalize L.getD i 0 = x at *
            have c1 := HC1.out wr HW.out
            have c2 := HC2.out wr HW.out
            by_cases e : s = x
            · have d1 : (s == x) = true := by simpa using e
              have e' := hidden e
              clear e HN
              go_wp2_with fail
              go_quiet (fail)
              obtain ⟨w3, hw3⟩ : ∃ w3, wr.drewN nq = w3 := ⟨_, rfl⟩
              have HW3 : Hid (Below w2.heap.size w2 w3) := by rw [← hw3]; exact below_drewN' HW.out _
              rw [hw3]
              clear hw3 c1 c2 HW
              go_wp2_with fail
              go_roundg (j - (i + 1))
              case measure => omega
              case rel => exact ⟨i + 1, by omega, by go_num, HW3⟩
            · have d1 : (s == x) = false := by simpa using e
              obtain ⟨hqA, hnr⟩ := HN.out e
              have d2 : (q != A) = false := by simpa using hqA
              have HNR := hidden hnr
              clear e HN hnr hqA
              go_wp2_with fail
              go_quiet (fail)
              obtain ⟨w3, hw3⟩ : ∃ w3, wr.drewN nq = w3 := ⟨_, rfl⟩
              have HW3 : Hid (Below w2.heap.size w2 w3) := by rw [← hw3]; exact below_drewN' HW.out _
              rw [hw3]
              clear hw3 c1 c2 HW
              go_wp2_with fail
              go_loopg [12] j (fun g y wr => ∃ (k : Nat), k + g = j ∧ y = .int .i64 (k : Int) ∧ Hid (Below w2.heap.size w2 wr))
              case atStart => exact ⟨0, by omega, rfl, HW3⟩
              case round =>
                clear HW3
                obtain ⟨k, hkg, rfl, HW⟩ := hrel
                by_cases hk : k < j
                · have hkz : (k : Int) < (j : Int) := by omega
                  have HC3 : Hid (∀ W, Below w2.heap.size w2 W → W.cell? ⟨b1, o1 + k, none⟩ = some (.int .i64 (S.getD k 0))) := fun W hW => iarg_cell (HI.out.below hW) hk
                  have hsk := HNR.out k hk
                  generalize S.getD k 0 = t at *
                  have d3 : decide (s + 1 < t) = false := by simpa using hsk.2
                  have c1 := HC1.out wr HW.out
                  have c3 := HC3.out wr HW.out
                  go_wp2_with fail
                  go_quiet (fail)
                  obtain ⟨w4, hw4⟩ : ∃ w4, wr.drewN nq = w4 := ⟨_, rfl⟩
                  have HW4 : Hid (Below w2.heap.size w2 w4) := by rw [← hw4]; exact below_drewN' HW.out _
                  rw [hw4]
                  clear hw4 c1 c3 HW
                  go_wp2_with fail
                  go_roundg (j - (k + 1))
                  case measure => omega
                  case rel => exact ⟨k + 1, by omega, by go_num, HW4⟩
                · have hkz : ¬ (k : Int) < (j : Int) := by omega
                  go_wp2_with fail
                  go_roundg (j - (i + 1))
                  case measure => omega
                  case rel => exact ⟨i + 1, by omega, by go_num, HW⟩
          · have hiz : ¬ (i : Int) < (j : Int) := by omega
            go_wp2_with fail
            go_ret
            exact ⟨rfl, HB2.out.trans (HW.out.mono HB2.out.size)⟩
  · have hp := errv_pos h0
    generalize rf A L 200 = f at *
    rw [hp]
    go_wp2_with fail
    go_ret
    exact ⟨rfl, HB.out⟩
end Go.Proofs.Ytdoljkiklnaioah.RFair
