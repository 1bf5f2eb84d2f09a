/-
  The walk of the Go function SerialPlays, of a size that may be: it returns true. Its condition: package errors' variable errorType is as its text lays it.
-/
import Derived.Test.YtgmnngflbaillaaDoorPlayA
namespace Go.Proofs.YtgmnngflbaillaaDoor.PlayW
open Go.ChangeShapes Go.WideShapes Go.ChangeAt Go.RowKit Go.Proofs.YtgmnngflbaillaaDoor.Win Go.Proofs.YtgmnngflbaillaaDoor.RWin Go.Proofs.YtgmnngflbaillaaDoor.Play
set_option linter.unusedVariables false

theorem st_drewN {W w : World} {n T : Int} {s : Nat} {L : List Int} {v : Value} {k : Nat} (h : St W w n T s L v k) (m : Nat) : St W (w.drewN m) n T s L v k :=
  ⟨below_drewN h.1 m, h.2.1, h.2.2.1, h.2.2.2.1, h.2.2.2.2.1, h.2.2.2.2.2⟩
theorem lt_of_cell {w : World} {v : Value} (h : w.cell? ⟨0, 0, none⟩ = some v) : 0 < w.heap.size := by
  rcases Nat.eq_zero_or_pos w.heap.size with h0 | h'
  · simp [World.cell?, h0] at h
  · exact h'

set_option maxRecDepth 100000 in
set_option maxHeartbeats 1500000 in
theorem walk_ok (n : Int) (al ah : Option Addr) (ll cl lh ch : Nat) (Z H : Nat → Int) (w : World) (hg : w.cell? ⟨0, 0, none⟩ = some (.iface 66 (.agg #[.pointer (some ⟨1, 25, none⟩)]))) (h1 : 1 ≤ n) (h2 : n ≤ 64)
    (hll : ll ≤ 9223372036854775807) (hlh : lh ≤ 9223372036854775807)
    (hZ : Hid (∀ j, j < ll → ∃ b o, al = some ⟨b, o, none⟩ ∧ b < w.heap.size ∧ w.cell? ⟨b, o + j, none⟩ = some (.int .i64 (Z j))))
    (hH : Hid (∀ j, j < lh → ∃ b o, ah = some ⟨b, o, none⟩ ∧ b < w.heap.size ∧ w.cell? ⟨b, o + j, none⟩ = some (.int .i64 (H j)))) :
    Calls Tryd.prog 4 #[.int .i64 n, .slice al ll cl, .slice ah lh ch] w fun e w' => e = .returned (.bool true) ∧ Below w.heap.size w w' := by
  have HG : Hid (w.cell? ⟨0, 0, none⟩ = some (.iface 66 (.agg #[.pointer (some ⟨1, 25, none⟩)]))) := hg
  clear hg
  go_enter Tryd.func4, Tryd.ntmps4
  go_wp2_with fail
  refine (new_ok n _ h1 h2).mono ?_
  rintro e w1 ⟨rfl, rfl⟩
  go_wp2_with fail
  refine (Told.same_nil 0 _).mono ?_
  rintro e w1 ⟨rfl, rfl⟩
  go_wp2_with fail
  go_loopw [12] (fun i wr => ∃ (k : Nat) (T : Int) (s : Nat) (L : List Int) (v : Value), k ≤ 80 ∧ i = .int .i64 k ∧ Hid (St w wr n T s L v k)) (fun i _ => 80 - (intOf i).toNat)
  case atStart => exact ⟨0, -1, 0, [], _, by omega, rfl, st_start w n h1 h2⟩
  case round =>
    obtain ⟨k, T, s, L, v, hk, rfl, HS⟩ := hrel
    by_cases hlt : k < ll
    · by_cases h80 : k < 80
      · obtain ⟨b, o, rfl, hb, hcell⟩ := hZ.out k hlt
        have c1 : wr.cell? ⟨b, o + k, none⟩ = some (.int .i64 (Z k)) := (HS.out.1.cell (p := ⟨b, o + k, none⟩) hb).trans hcell
        have HC : Hid (w.cell? ⟨b, o + k, none⟩ = some (.int .i64 (Z k))) := hcell
        clear hcell
        have hLk : L.length ≤ 1000 := by have := HS.out.2.2.2.2.2; omega
        go_wp2_with fail
        refine (radd_calls (w.heap.size + 1) w.heap.size n T (Z k) s v L _ HS.out.2.2.1 HS.out.2.2.2.1 HS.out.1.size hLk HS.out.2.2.2.2.1).mono ?_
        rintro e w1 ⟨rfl, v', q1, q2, q3⟩
        have HM := hidden (st_mid HS.out q3)
        have Q1 := hidden q1
        have Q2 := hidden q2
        have Q3 := hidden q3
        clear q1 q2 q3 c1
        have c2 : w1.cell? ⟨b, o + k, none⟩ = some (.int .i64 (Z k)) := (HM.out.2.cell (p := ⟨b, o + k, none⟩) hb).trans HC.out
        go_wp2_with fail
        refine (add_calls w.heap.size n T (Z k) s L _ HM.out.1 HS.out.2.2.2.2.1).mono ?_
        rintro e w2 ⟨rfl, q4, q5⟩
        have Q4 := hidden q4
        have Q5 := hidden q5
        clear q4 q5 c2
        have h0s : 0 < w.heap.size := lt_of_cell HG.out
        have hg2 : w2.cell? ⟨0, 0, none⟩ = some (.iface 66 (.agg #[.pointer (some ⟨1, 25, none⟩)])) :=
          ((HM.out.2.trans (Q5.out.below HM.out.2.size (by simp))).cell (p := ⟨0, 0, none⟩) h0s).trans HG.out
        have HG2 := hidden hg2
        clear hg2
        go_wp2_with fail
        refine (same_calls n T (Z k) _ HG2.out).mono ?_
        rintro e w3 ⟨rfl, hb3⟩
        have HS3 := hidden (st_step HS.out Q3.out Q1.out Q2.out Q4.out Q5.out hb3)
        clear hb3
        obtain ⟨a0, a1, a2⟩ := cells3 HS3.out.2.1
        obtain ⟨r0, r1, r2⟩ := cells3 HS3.out.2.2.1
        have hL1 : (stL n T L (Z k)).length ≤ 1000 := by have := HS3.out.2.2.2.2.2; omega
        clear Q1 Q2 Q3 Q4 Q5 HM HG2
        generalize stT n T (Z k) = T' at *
        generalize stL n T L (Z k) = L' at *
        generalize stS n T s (Z k) = s' at *
        generalize stE n T (Z k) = e' at *
        generalize stX n T L (Z k) = x' at *
        go_wp2_with fail
        go_quiet ((go_at_call 15; exact Calls.quiet_of_same (top_calls _ _ _ (by exact a1))))
        go_wp2_with fail
        go_loopw [17] (fun j wq => ∃ i : Nat, i ≤ 6 ∧ j = .int .i64 i ∧ Hid (St w wq n T' s' L' v' (k + 1))) (fun j _ => 6 - (intOf j).toNat)
        case atStart => exact ⟨0, by omega, rfl, st_drewN HS3.out _⟩
        case round =>
          obtain ⟨i, hi, rfl, HSq⟩ := hrel
          clear a0 a1 a2 r0 r1 r2 HS3
          obtain ⟨a0, a1, a2⟩ := cells3 HSq.out.2.1
          obtain ⟨r0, r1, r2⟩ := cells3 HSq.out.2.2.1
          have HI := hidden HSq.out.2.2.2.2.1
          by_cases hlt2 : i < lh
          · by_cases h6 : i < 6
            · obtain ⟨b2, o2, rfl, hb2, hcell2⟩ := hH.out i hlt2
              have c3 := (HSq.out.1.cell (p := ⟨b2, o2 + i, none⟩) hb2).trans hcell2
              clear hcell2
              go_wp2_with fail
              go_quiet ((first | (go_at_call 16; exact Calls.quiet_of (hasS w.heap.size n T' (H i) s' L' _ (by exact a0) (by exact a1) (by exact a2) HI.out)) | (go_at_call 17; exact Calls.quiet_of (rhas_calls (w.heap.size + 1) w.heap.size n T' (H i) v' L' _ (by exact r0) (by exact r1) (by exact r2) (by exact HSq.out.2.2.2.1) hL1 HI.out.1 HI.out.2.1 HI.out.2.2.1 HI.out.2.2.2.1))))
              go_wp2_with fail
              go_roundw
              case rel => exact ⟨i + 1, by omega, by go_num, st_drewN HSq.out _⟩
              case measure => simp [intOf]; omega
            · go_wp2_with fail
              go_roundw
              case rel => exact ⟨k + 1, T', s', L', v', by omega, by go_num, HSq.out⟩
              case measure => simp [intOf]; omega
          · go_wp2_with fail
            go_roundw
            case rel => exact ⟨k + 1, T', s', L', v', by omega, by go_num, HSq.out⟩
            case measure => simp [intOf]; omega
      · go_wp2_with fail
        go_ret
        exact ⟨rfl, HS.out.1⟩
    · go_wp2_with fail
      go_ret
      exact ⟨rfl, HS.out.1⟩
end Go.Proofs.YtgmnngflbaillaaDoor.PlayW
