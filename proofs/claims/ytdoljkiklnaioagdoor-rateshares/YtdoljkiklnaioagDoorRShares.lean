/-
  The walk of the Go function RateShares: it returns true at any numbers, any rows of numbers and any row of reports. Its condition: package errors' variable errorType is as the program's text lays it.
-/
import Derived.Test.YtdoljkiklnaioagDoorRateS
import Derived.LoopTactic
import Derived.Deep.CutRange
import Derived.Deep.LoopGhost
namespace Go.Proofs.YtdoljkiklnaioagDoor.RShares
open Go.ChangeShapes Go.WideShapes Go.ChangeAt Go.RowKit Go.Proofs.YtdoljkiklnaioagDoor.Mem Go.Proofs.YtdoljkiklnaioagDoor.RT Go.Proofs.YtdoljkiklnaioagDoor.Rate
set_option linter.unusedVariables false

/-- what is known of a choice, where the loop has seen all places that it looks at -/
structure Ch (A : Int) (f2 f3 : Nat) (cc z : Int) : Prop where
  bad : f2 ≠ 0 → f3 = f2 ∧ cc = 0 ∧ z = -1
  none : f2 = 0 → z < 0 → f3 = 5 ∧ cc = 0
  some : f2 = 0 → 0 ≤ z → f3 = 0 ∧ cc = z
theorem ch_of (A : Int) (K : List Int) (j : Nat) (h : rf A K 4 = 0 → j = K.length) (h' : rf A K 4 ≠ 0 → j = 0) : Ch A (rf A K 4) (cf A K) (cv A K) (la A K j) := by
  refine ⟨fun e => ?_, fun e hz => ?_, fun e hz => ?_⟩
  · obtain ⟨q1, q2⟩ := c_err e
    exact ⟨q1, q2, by rw [h' e]; rfl⟩
  · rw [h e] at hz
    unfold cf cv
    rw [if_pos e, if_pos e, if_pos hz, if_pos hz]
    exact ⟨rfl, rfl⟩
  · rw [h e] at hz ⊢
    unfold cf cv
    rw [if_pos e, if_pos e, if_neg (by omega), if_neg (by omega)]
    exact ⟨rfl, rfl⟩
theorem la_ge (A : Int) (L : List Int) : ∀ k, -1 ≤ la A L k ∧ la A L k ≤ (k : Int)
  | 0 => by simp [la]
  | k + 1 => by
    have := la_ge A L k
    simp only [la]
    split <;> omega
/-- a Guess under way -/
structure RSt (w W : World) (g : Nat) (r lo hi : Int) : Prop where
  at_ : GAt W g r lo hi
  inv : Inv r lo hi
  bel : Below w.heap.size w W
  hg : w.heap.size ≤ g
theorem RSt.next {w W W' : World} {g : Nat} {r lo hi : Int} (h : RSt w W g r lo hi) (hb : Below W.heap.size W W') : RSt w W' g r lo hi := ⟨h.at_.below hb, h.inv, h.bel.trans (hb.mono h.bel.size), h.hg⟩
/-- what is known of a report -/
structure Rp (r lo hi a b : Int) (f : Nat) (r' v : Int) : Prop where
  bad : f ≠ 0 → f = 1 ∧ r' = r ∧ v = 0
  ok : f = 0 → 1 ≤ b ∧ b ≤ 1000000 ∧ 0 ≤ a ∧ a ≤ b ∧ r' = cl (rw' r a b) lo hi ∧ v = r'
theorem rp_of (r lo hi a b : Int) : Rp r lo hi a b (pf a b) (rn r lo hi a b) (rv r lo hi a b) := by
  refine ⟨fun h => ?_, fun h => ?_⟩
  · unfold rn rv
    rw [if_neg h, if_neg h]
    exact ⟨by have := pf_le a b; omega, rfl, rfl⟩
  · obtain ⟨h1, h2, h3, h4⟩ := pf_zero h
    unfold rn rv
    rw [if_pos h, if_pos h]
    exact ⟨h1, h2, h3, h4, rfl, rfl⟩
theorem pf_iff (a b : Int) : pf a b = 0 ↔ 1 ≤ b ∧ b ≤ 1000000 ∧ 0 ≤ a ∧ a ≤ b := by
  refine ⟨pf_zero, fun h => ?_⟩
  unfold pf
  rw [if_neg (by omega)]
set_option maxHeartbeats 16000000 in
set_option maxRecDepth 100000 in
theorem walk (A : Int) (va : Option Addr) (n cn : Nat) (L : List Int) (ka : Option Addr) (m cm : Nat) (K : List Int) (r lo hi : Int) (ta : Option Addr) (q cq : Nat) (F : List (Int × Int)) (w : World)
    (hg : w.cell? ⟨0, 0, none⟩ = some (.iface 134 (.agg #[.pointer (some ⟨1, 25, none⟩)]))) (hL : IArg w va n L) (hK : IArg w ka m K) (hF : TArg w ta q F) :
    Calls Tryd.prog 5 #[.int .i64 A, .slice va n cn, .slice ka m cm, .int .i64 r, .int .i64 lo, .int .i64 hi, .slice ta q cq] w fun e w' => e = .returned (.bool true) ∧ Below w.heap.size w w' := by
  have h0s : 0 < w.heap.size := World.block_lt_of_cell? w ⟨0, 0, none⟩ hg
  have HG : Hid (∀ W, Below w.heap.size w W → W.cell? ⟨0, 0, none⟩ = some (.iface 134 (.agg #[.pointer (some ⟨1, 25, none⟩)]))) := fun W hW => (hW.cell (p := ⟨0, 0, none⟩) h0s).trans hg
  have HE : Hid (∀ (f : Nat) (W : World), f ≤ 100 → Below w.heap.size w W → Calls Tryd.prog 13 #[errv f, .int .i64 (f : Int)] W fun e w' => e = .returned (.bool true) ∧ Below W.heap.size W w') := fun f W hf hW => told_f f W hf (HG.out W hW)
  clear HG hg h0s
  have hkl := hK.2.1
  have hk2 := hK.2.2
  have hfl := hF.2.1
  have hf2 := hF.2.2
  have HK := hidden hK
  have HF := hidden hF
  -- the shares
  have HC1 := hidden (rates_calls A va n cn 200 L w hL (by omega))
  have HC2 := hidden (fun h0 => want_u A va n cn L w hL h0)
  have HC3 := hidden (fun W hW => fair_u A va n cn L W (hL.below hW))
  have hft : rf A L 200 ≠ 0 → tl A L = [] := fun h => by unfold tl; rw [if_neg h]
  have hf4 := rf_le A L 200
  obtain ⟨f, hf⟩ : ∃ f, rf A L 200 = f := ⟨_, rfl⟩
  rw [hf] at HC1 HC2 HC3 hft hf4
  clear hf
  generalize tl A L = T at *
  have HFT := hidden hft
  clear hft hL
  -- the choice
  have HC4 := hidden (fun W hW => rates_calls A ka m cm 4 K W (hK.below hW) (by omega))
  have HC5 := hidden (fun W hW => choose_calls A ka m cm K W (hK.below hW))
  have HCh := hidden (fun j h h' => ch_of A K j h h')
  have hf5 := rf_le A K 4
  have hf6 := cf_le A K
  obtain ⟨f2, hf2'⟩ : ∃ f2, rf A K 4 = f2 := ⟨_, rfl⟩
  obtain ⟨f3, hf3'⟩ : ∃ f3, cf A K = f3 := ⟨_, rfl⟩
  obtain ⟨cc, hcc⟩ : ∃ cc, cv A K = cc := ⟨_, rfl⟩
  rw [hf2'] at HC4 HCh hf5
  rw [hf3', hcc] at HC5 HCh
  rw [hf3'] at hf6
  clear hf2' hf3' hcc hK
  -- the guess
  have HC6 : Hid (∀ W, Calls Tryd.prog 26 #[.int .i64 r, .int .i64 lo, .int .i64 hi] W fun e w' => (nf r lo hi = 0 ∧ ∃ b, e = .returned (.tuple #[.pointer (some ⟨b, 0, none⟩), .nilIface]) ∧ W.heap.size ≤ b ∧ GAt w' b r lo hi ∧ Below W.heap.size W w') ∨
      (nf r lo hi ≠ 0 ∧ e = .returned (.tuple #[.pointer none, errv (nf r lo hi)]) ∧ w' = W)) := fun W => new_calls r lo hi W
  have hf7 := nf_le r lo hi
  have HI := hidden (fun h => nf_zero (r := r) (lo := lo) (hi := hi) h)
  have HNF : Hid (nf r lo hi = if r < 1 ∨ 1000000 < r ∨ lo < 1 ∨ 1000000 < lo ∨ hi < 1 ∨ 1000000 < hi then 1 else if r < lo ∨ hi < r then 3 else 0) := rfl
  obtain ⟨f4, hf4'⟩ : ∃ f4, nf r lo hi = f4 := ⟨_, rfl⟩
  rw [hf4'] at HC6 hf7 HNF HI
  clear hf4' hF
  go_enter Tryd.func5, Tryd.ntmps5
  go_wp2_with fail
  refine HC1.out.mono ?_
  rintro e w' ⟨rfl, hw⟩
  obtain rfl := hw.symm
  clear HC1
  obtain ⟨bf, hbf⟩ : ∃ bf : Bool, ((f : Int) == 0) = bf := ⟨_, rfl⟩
  have HBF : Hid (decide (f = 0) = bf) := by
    unfold Hid
    rw [← hbf]
    by_cases p : f = 0
    · subst p; rfl
    · simp [p]
  go_upto_if 38 with fail
  go_cut [16] from 38 to 41 (fun x wx => ∃ wa wc', x = .slice wa T.length wc' ∧ Hid (IArg wx wa T.length T ∧ Below w.heap.size w wx))
  case first =>
    cases bf with
    | true =>
      have HF0 : Hid (f = 0) := hidden (of_decide_eq_true HBF.out)
      go_wp2_with fail
      refine (HC2.out HF0.out).mono ?_
      rintro ev w2 ⟨wa, wc', rfl, h1, h2⟩
      have H1 := hidden (And.intro h1 h2)
      clear h1 h2
      go_wp2_with fail
      go_meet
      exact ⟨wa, wc', rfl, H1⟩
    | false =>
      have HEE := hidden (HFT.out (of_decide_eq_false HBF.out))
      go_wp2_with fail
      go_meet
      exact ⟨none, 0, by rw [HEE.out]; rfl, by rw [HEE.out]; exact IArg.nil _ _, Below.refl _ _⟩
  case rest =>
  obtain ⟨wa, wc', rfl, HW⟩ := hcut
  clear HC2 HFT hbf HBF bf
  go_wp2_with fail
  refine (HC3.out _ HW.out.2).mono ?_
  rintro ev w2 ⟨fa, fc, rfl, h1, h2⟩
  have HW2 : Hid (Below w.heap.size w w2) := HW.out.2.trans (h2.mono HW.out.2.size)
  have HA2 := hidden (HW.out.1.below h2)
  have HB2 := hidden h1
  clear h1 h2 HW HC3
  go_wp2_with fail
  refine (HE.out f _ (by omega) HW2.out).mono ?_
  rintro ev w3 ⟨rfl, h2⟩
  have HW3 : Hid (Below w.heap.size w w3) := HW2.out.trans (h2.mono HW2.out.size)
  have HA3 := hidden (HA2.out.below h2)
  have HB3 := hidden (HB2.out.below h2)
  clear h2 HW2 HA2 HB2
  go_wp2_with fail
  refine (ints_same _ _ _ _ _ T _ HB3.out HA3.out).mono ?_
  rintro ev w4 ⟨rfl, h2⟩
  have HW4 : Hid (Below w.heap.size w w4) := HW3.out.trans (h2.mono HW3.out.size)
  clear h2 HW3 HA3 HB3
  go_wp2_with fail
  refine (HC4.out _ HW4.out).mono ?_
  rintro ev w' ⟨rfl, hw⟩
  obtain rfl := hw.symm
  clear HC4
  go_wp2_with fail
  go_loopg [21, 22] m (fun g u x wr => ∃ (j : Nat) (z : Int), j + g = m ∧ u = .int .i64 z ∧ x = .int .i64 (j : Int) ∧ Hid (z = la A K j) ∧ Hid (f2 ≠ 0 → j = 0) ∧ w4 = wr)
  case atStart => exact ⟨0, -1, by omega, rfl, rfl, hidden rfl, hidden (fun _ => rfl), rfl⟩
  case round =>
  obtain ⟨j, z, hjg, rfl, rfl, HZ, HJ, rfl⟩ := hrel
  have hz := la_ge A K j
  rw [← HZ.out] at hz
  obtain ⟨jb, hjb⟩ : ∃ jb : Bool, decide (j < m ∧ f2 = 0) = jb := ⟨_, rfl⟩
  have HJb := hidden hjb
  clear hjb
  go_upto_region 11 with fail
  go_cut [64] from 57 to 64 (fun c wx => c = .bool jb ∧ wx = w4)
  case first =>
    by_cases q1 : j < m
    · have q1z : (j : Int) < (m : Int) := by omega
      have e := hidden (by rw [← HJb.out]; by_cases p : f2 = 0 <;> simp [q1, p] : ((f2 : Int) == 0) = jb)
      clear HJb
      go_wp2_with fail
      go_meet
      exact ⟨congrArg Value.bool e.out, rfl⟩
    · have q1z : ¬ (j : Int) < (m : Int) := by omega
      have e := hidden (by rw [← HJb.out]; simp [q1] : false = jb)
      clear HJb
      go_wp2_with fail
      go_meet
      exact ⟨congrArg Value.bool e.out, rfl⟩
  case rest =>
  obtain ⟨rfl, rfl⟩ := hcut
  cases jb with
  | true =>
    obtain ⟨hj, h20⟩ : j < m ∧ f2 = 0 := of_decide_eq_true HJb.out
    clear HJb
    have hjz : (j : Int) < (m : Int) := by omega
    obtain ⟨kb, ko, rfl, hcs⟩ := (HK.out.below HW4.out).at (by omega)
    have c0 := hcs j hj
    have hla : la A K (j + 1) = if K.getD j 0 ≤ A then (j : Int) else la A K j := rfl
    rw [← HZ.out] at hla
    obtain ⟨x, hxx⟩ : ∃ x, K.getD j 0 = x := ⟨_, rfl⟩
    rw [hxx] at c0 hla
    have HJ1 : Hid (f2 ≠ 0 → j + 1 = 0) := hidden (fun e => absurd h20 e)
    clear hxx hcs HZ HJ h20
    by_cases p : x ≤ A
    · have d : decide (x ≤ A) = true := by simpa using p
      rw [if_pos p] at hla
      have HZ := hidden hla.symm
      clear hla
      go_wp2_with fail
      go_roundg (m - (j + 1))
      case measure => omega
      case rel => exact ⟨j + 1, (j : Int), by omega, rfl, by go_num, HZ, HJ1, rfl⟩
    · have d : decide (x ≤ A) = false := by simpa using p
      rw [if_neg p] at hla
      have HZ := hidden hla.symm
      clear hla
      go_wp2_with fail
      go_roundg (m - (j + 1))
      case measure => omega
      case rel => exact ⟨j + 1, z, by omega, rfl, by go_num, HZ, HJ1, rfl⟩
  | false =>
  have hch := HCh.out j (fun e => by
    have := of_decide_eq_false HJb.out
    have : ¬ j < m := fun q => this ⟨q, e⟩
    omega) HJ.out
  rw [← HZ.out] at hch
  have HC := hidden hch
  clear hch HCh HJ HZ HJb
  obtain ⟨b5, hb5⟩ : ∃ b5 : Bool, decide (f2 = 0 ∧ z < 0) = b5 := ⟨_, rfl⟩
  have HB5 := hidden hb5
  clear hb5
  go_upto_region 15 with fail
  go_cut [79] from 74 to 79 (fun c wx => c = .bool b5 ∧ wx = wc)
  case first =>
    by_cases p : f2 = 0
    · have d : ((f2 : Int) == 0) = true := by simpa using p
      have e := hidden (by rw [← HB5.out]; simp [p] : decide (z < 0) = b5)
      clear HB5 HC
      go_wp2_with fail
      go_meet
      exact ⟨congrArg Value.bool e.out, rfl⟩
    · have d : ((f2 : Int) == 0) = false := by simpa using p
      have e := hidden (by rw [← HB5.out]; simp [p] : false = b5)
      clear HB5 HC
      go_wp2_with fail
      go_meet
      exact ⟨congrArg Value.bool e.out, rfl⟩
  case rest =>
  obtain ⟨rfl, rfl⟩ := hcut
  go_upto_if 79 with fail
  go_cut [15] from 80 to 80 (fun x wx => x = .int .i64 (f3 : Int) ∧ wx = wc)
  case first =>
    cases b5 with
    | true =>
      have e := hidden (HC.out.none (of_decide_eq_true HB5.out).1 (of_decide_eq_true HB5.out).2).1
      clear HB5 HC
      go_wp2_with fail
      go_meet
      exact ⟨by rw [e.out]; rfl, rfl⟩
    | false =>
      have hn5 := of_decide_eq_false HB5.out
      have e : Hid (f3 = f2) := by
        unfold Hid
        by_cases p : f2 = 0
        · rw [(HC.out.some p (by have : ¬ z < 0 := fun q => hn5 ⟨p, q⟩; omega)).1, p]
        · exact (HC.out.bad p).1
      clear HB5 HC hn5
      go_wp2_with fail
      go_meet
      exact ⟨by rw [e.out], rfl⟩
  case rest =>
  obtain ⟨rfl, rfl⟩ := hcut
  clear HB5
  go_upto_if 81 with fail
  go_cut [21] from 80 to 81 (fun x wx => x = .int .i64 cc ∧ wx = wc)
  case first =>
    by_cases p : z < 0
    · have d : decide (z < 0) = true := by simpa using p
      have e : Hid (cc = 0) := by
        unfold Hid
        by_cases p2 : f2 = 0
        · exact (HC.out.none p2 p).2
        · exact (HC.out.bad p2).2.1
      clear HC
      go_wp2_with fail
      go_meet
      exact ⟨by rw [e.out], rfl⟩
    · have d : decide (z < 0) = false := by simpa using p
      have e : Hid (cc = z) := by
        unfold Hid
        by_cases p2 : f2 = 0
        · exact (HC.out.some p2 (by omega)).2
        · have := (HC.out.bad p2).2.2; omega
      clear HC
      go_wp2_with fail
      go_meet
      exact ⟨by rw [e.out], rfl⟩
  case rest =>
  obtain ⟨rfl, rfl⟩ := hcut
  clear HC
  go_wp2_with fail
  refine (HC5.out _ HW4.out).mono ?_
  rintro ev w5 ⟨rfl, h2⟩
  have HW5 : Hid (Below w.heap.size w w5) := HW4.out.trans (h2.mono HW4.out.size)
  clear h2 HW4 HC5
  go_wp2_with fail
  refine (HE.out f3 _ (by omega) HW5.out).mono ?_
  rintro ev w6 ⟨rfl, h2⟩
  have HW6 : Hid (Below w.heap.size w w6) := HW5.out.trans (h2.mono HW5.out.size)
  clear h2 HW5
  obtain ⟨b1, hb1⟩ : ∃ b1 : Bool, decide (r < 1 ∨ 1000000 < r ∨ lo < 1 ∨ 1000000 < lo ∨ hi < 1 ∨ 1000000 < hi) = b1 := ⟨_, rfl⟩
  have HB1 := hidden hb1
  clear hb1
  go_upto_region 24 with fail
  go_cut [127] from 106 to 127 (fun c wx => c = .bool b1 ∧ wx = w6)
  case first =>
    by_cases p0 : r < 1
    · have d0 : decide (r < 1) = true := by simpa using p0
      have e := hidden (by rw [← HB1.out]; simp [p0] : true = b1)
      clear HB1 HNF HI
      go_wp2_with fail
      go_meet
      exact ⟨congrArg Value.bool e.out, rfl⟩
    have d0 : decide (r < 1) = false := by simpa using p0
    by_cases p1 : 1000000 < r
    · have d1 : decide (1000000 < r) = true := by simpa using p1
      have e := hidden (by rw [← HB1.out]; simp [p1] : true = b1)
      clear HB1 HNF HI
      go_wp2_with fail
      go_meet
      exact ⟨congrArg Value.bool e.out, rfl⟩
    have d1 : decide (1000000 < r) = false := by simpa using p1
    by_cases p2 : lo < 1
    · have d2 : decide (lo < 1) = true := by simpa using p2
      have e := hidden (by rw [← HB1.out]; simp [p2] : true = b1)
      clear HB1 HNF HI
      go_wp2_with fail
      go_meet
      exact ⟨congrArg Value.bool e.out, rfl⟩
    have d2 : decide (lo < 1) = false := by simpa using p2
    by_cases p3 : 1000000 < lo
    · have d3 : decide (1000000 < lo) = true := by simpa using p3
      have e := hidden (by rw [← HB1.out]; simp [p3] : true = b1)
      clear HB1 HNF HI
      go_wp2_with fail
      go_meet
      exact ⟨congrArg Value.bool e.out, rfl⟩
    have d3 : decide (1000000 < lo) = false := by simpa using p3
    by_cases p4 : hi < 1
    · have d4 : decide (hi < 1) = true := by simpa using p4
      have e := hidden (by rw [← HB1.out]; simp [p4] : true = b1)
      clear HB1 HNF HI
      go_wp2_with fail
      go_meet
      exact ⟨congrArg Value.bool e.out, rfl⟩
    have d4 : decide (hi < 1) = false := by simpa using p4
    have e := hidden (by rw [← HB1.out]; simp [p0, p1, p2, p3, p4] : decide (1000000 < hi) = b1)
    clear HB1 HNF HI
    go_wp2_with fail
    go_meet
    exact ⟨congrArg Value.bool e.out, rfl⟩
  case rest =>
  obtain ⟨rfl, rfl⟩ := hcut
  go_upto_if 127 with fail
  go_cut [15] from 128 to 140 (fun x wx => x = .int .i64 (f4 : Int) ∧ wx = wc)
  case first =>
    cases b1 with
    | true =>
      have e := hidden (by rw [HNF.out, if_pos (of_decide_eq_true HB1.out)] : f4 = 1)
      clear HB1 HNF HI
      go_wp2_with fail
      go_meet
      exact ⟨by rw [e.out]; rfl, rfl⟩
    | false =>
      have hnf := HNF.out
      rw [if_neg (of_decide_eq_false HB1.out)] at hnf
      clear HB1 HNF HI
      by_cases p0 : hi < lo
      · have d0 : decide (hi < lo) = true := by simpa using p0
        have e := hidden (by rw [hnf, if_pos (by omega)] : f4 = 3)
        clear hnf
        go_wp2_with fail
        go_meet
        exact ⟨by rw [e.out]; rfl, rfl⟩
      have d0 : decide (hi < lo) = false := by simpa using p0
      by_cases p1 : r < lo
      · have d1 : decide (r < lo) = true := by simpa using p1
        have e := hidden (by rw [hnf, if_pos (by omega)] : f4 = 3)
        clear hnf
        go_wp2_with fail
        go_meet
        exact ⟨by rw [e.out]; rfl, rfl⟩
      have d1 : decide (r < lo) = false := by simpa using p1
      by_cases p2 : hi < r
      · have d2 : decide (hi < r) = true := by simpa using p2
        have e := hidden (by rw [hnf, if_pos (by omega)] : f4 = 3)
        clear hnf
        go_wp2_with fail
        go_meet
        exact ⟨by rw [e.out]; rfl, rfl⟩
      have d2 : decide (hi < r) = false := by simpa using p2
      have e := hidden (by rw [hnf, if_neg (by omega)] : f4 = 0)
      clear hnf
      go_wp2_with fail
      go_meet
      exact ⟨by rw [e.out]; rfl, rfl⟩
  case rest =>
  obtain ⟨rfl, rfl⟩ := hcut
  clear HB1 HNF
  go_wp2_with fail
  refine (HC6.out _).mono ?_
  rintro ev w7 (⟨h40, g, rfl, hgs, hga, hgb⟩ | ⟨h40, rfl, hw⟩)
  · have HR : Hid (RSt w w7 g r lo hi) := ⟨hga, HI.out h40, HW6.out.trans (hgb.mono HW6.out.size), by have := HW6.out.size; omega⟩
    subst h40
    clear hgs hga hgb HW6 HI HC6
    go_wp2_with fail
    refine (HE.out 0 _ (by omega) HR.out.bel).mono ?_
    rintro ev w8 ⟨rfl, h2⟩
    have HR8 := hidden (HR.out.next h2)
    clear h2 HR
    go_wp2_with fail
    go_loopg [3, 27] 30 (fun g0 u x wr => ∃ (j : Nat) (y : Int), j + g0 = 30 ∧ u = .int .i64 y ∧ x = .int .i64 (j : Int) ∧ Hid (RSt w wr g y lo hi))
    case atStart => exact ⟨0, r, by omega, rfl, rfl, HR8⟩
    case round =>
    clear HR8
    obtain ⟨j, y, hjg, rfl, rfl, HR⟩ := hrel
    obtain ⟨jb, hjb⟩ : ∃ jb : Bool, decide (j < q ∧ j < 30) = jb := ⟨_, rfl⟩
    have HJb := hidden hjb
    clear hjb
    go_upto_region 33 with fail
    go_cut [165] from 158 to 165 (fun c wx => c = .bool jb ∧ wx = wr)
    case first =>
      by_cases q1 : j < q
      · have q1z : (j : Int) < (q : Int) := by omega
        have e := hidden (by rw [← HJb.out]; simp [q1]; omega : decide ((j : Int) < 30) = jb)
        clear HJb
        go_wp2_with fail
        go_meet
        exact ⟨congrArg Value.bool e.out, rfl⟩
      · have q1z : ¬ (j : Int) < (q : Int) := by omega
        have e := hidden (by rw [← HJb.out]; simp [q1] : false = jb)
        clear HJb
        go_wp2_with fail
        go_meet
        exact ⟨congrArg Value.bool e.out, rfl⟩
    case rest =>
    obtain ⟨rfl, rfl⟩ := hcut
    cases jb with
    | false =>
      clear HJb
      go_wp2_with fail
      go_ret
      exact ⟨rfl, HR.out.bel⟩
    | true =>
    obtain ⟨hj, hj3⟩ : j < q ∧ j < 30 := of_decide_eq_true HJb.out
    clear HJb
    have hjz : (j : Int) < (q : Int) := by omega
    obtain ⟨tb, toff, rfl, t0, t1⟩ := (HF.out.below HR.out.bel).1 j (by omega)
    generalize (F.getD j (0, 0)).1 = a at *
    generalize (F.getD j (0, 0)).2 = b at *
    have hI := HR.out.inv
    have HP := hidden (rp_of y lo hi a b)
    have HPI := hidden (pf_iff a b)
    have HC := hidden (report_u g y lo hi a b wc HR.out.at_ hI)
    have HN := hidden (inv_rn hI a b)
    have hp1 := pf_le a b
    obtain ⟨f5, hf5'⟩ : ∃ f5, pf a b = f5 := ⟨_, rfl⟩
    obtain ⟨y', hy'⟩ : ∃ y', rn y lo hi a b = y' := ⟨_, rfl⟩
    obtain ⟨x', hx'⟩ : ∃ x', rv y lo hi a b = x' := ⟨_, rfl⟩
    rw [hf5'] at HP HPI HC hp1
    rw [hy'] at HP HC HN
    rw [hx'] at HP HC
    clear hf5' hy' hx'
    obtain ⟨i0, i1, i2, i3⟩ := hI
    obtain ⟨pb, hpb⟩ : ∃ pb : Bool, decide (f5 = 0) = pb := ⟨_, rfl⟩
    have HPb : Hid (decide (1 ≤ b ∧ b ≤ 1000000 ∧ 0 ≤ a ∧ a ≤ b) = pb) := by
      unfold Hid
      rw [← hpb]
      exact decide_eq_decide.2 HPI.out.symm
    have HPC := hidden hpb
    clear hpb HPI
    go_upto_region 39 with fail
    go_cut [192] from 168 to 192 (fun c wx => c = .bool pb ∧ wx = wc)
    case first =>
      by_cases p0 : 1 ≤ b
      case neg =>
        have d0 : decide (1 ≤ b) = false := by simpa using p0
        have e := hidden (by rw [← HPb.out]; simp [p0] : false = pb)
        clear HPb HP HPC
        go_wp2_with fail
        go_meet
        exact ⟨congrArg Value.bool e.out, rfl⟩
      have d0 : decide (1 ≤ b) = true := by simpa using p0
      by_cases p1 : b ≤ 1000000
      case neg =>
        have d1 : decide (b ≤ 1000000) = false := by simpa using p1
        have e := hidden (by rw [← HPb.out]; simp [p1] : false = pb)
        clear HPb HP HPC
        go_wp2_with fail
        go_meet
        exact ⟨congrArg Value.bool e.out, rfl⟩
      have d1 : decide (b ≤ 1000000) = true := by simpa using p1
      by_cases p2 : 0 ≤ a
      case neg =>
        have d2 : decide (0 ≤ a) = false := by simpa using p2
        have e := hidden (by rw [← HPb.out]; simp [p2] : false = pb)
        clear HPb HP HPC
        go_wp2_with fail
        go_meet
        exact ⟨congrArg Value.bool e.out, rfl⟩
      have d2 : decide (0 ≤ a) = true := by simpa using p2
      have e := hidden (by rw [← HPb.out]; simp [p0, p1, p2] : decide (a ≤ b) = pb)
      clear HPb HP HPC
      go_wp2_with fail
      go_meet
      exact ⟨congrArg Value.bool e.out, rfl⟩
    case rest =>
    obtain ⟨rfl, rfl⟩ := hcut
    clear HPb t0 t1
    go_upto_if 192 with fail
    go_cut [3, 15, 30] from 193 to 222 (fun u v x wx => u = .int .i64 y' ∧ v = .int .i64 (f5 : Int) ∧ x = .int .i64 x' ∧ wx = wc)
    case first =>
      cases pb with
      | false =>
        have e := hidden (HP.out.bad (of_decide_eq_false HPC.out))
        clear HP HPC
        go_wp2_with fail
        go_meet
        exact ⟨by rw [e.out.2.1], by rw [e.out.1]; rfl, by rw [e.out.2.2], rfl⟩
      | true =>
        obtain ⟨p0, p1, p2, p3, hy', hx'⟩ := HP.out.ok (of_decide_eq_true HPC.out)
        have H5 := hidden (of_decide_eq_true HPC.out)
        have HX := hidden hx'
        clear HP HPC hx'
        by_cases q1 : b < a * 10
        · have d4 : decide (b < a * 10) = true := by simpa using q1
          have m0 : 0 ≤ y * a := Int.mul_nonneg (by omega) p2
          have m1 : y * a ≤ 1000000 * 1000000 := Int.mul_le_mul (by omega) (by omega) p2 (by omega)
          have m2 : 0 ≤ y * a / (2 * b) := Int.ediv_nonneg m0 (by omega)
          have m3 : y * a / (2 * b) ≤ y * a := Int.ediv_le_self _ m0
          by_cases g1 : y - y * a / (2 * b) < lo
          · have k1 : decide (y - y * a / (2 * b) < lo) = true := by simpa using g1
            have k2 : decide (hi < lo) = false := by simpa using (show ¬ hi < lo by omega)
            have e := hidden (by rw [hy']; unfold cl rw'; rw [if_pos q1, if_pos g1, if_neg (by omega)] : y' = lo)
            clear hy'
            go_wp2_with fail
            go_meet
            exact ⟨by rw [e.out], by rw [H5.out]; rfl, by rw [HX.out, e.out], rfl⟩
          have k1 : decide (y - y * a / (2 * b) < lo) = false := by simpa using g1
          by_cases g2 : hi < y - y * a / (2 * b)
          · exact absurd g2 (by omega)
          have k2 : decide (hi < y - y * a / (2 * b)) = false := by simpa using g2
          have e := hidden (by rw [hy']; unfold cl rw'; rw [if_pos q1, if_neg g1, if_neg g2] : y' = y - y * a / (2 * b))
          clear hy'
          go_wp2_with fail
          go_meet
          exact ⟨by rw [e.out], by rw [H5.out]; rfl, by rw [HX.out, e.out], rfl⟩
        have d4 : decide (b < a * 10) = false := by simpa using q1
        by_cases q2 : a * 50 < b
        · have d5 : decide (a * 50 < b) = true := by simpa using q2
          by_cases g1 : y + (y / 20 + 1) < lo
          · exact absurd g1 (by omega)
          have k1 : decide (y + (y / 20 + 1) < lo) = false := by simpa using g1
          by_cases g2 : hi < y + (y / 20 + 1)
          · have k2 : decide (hi < y + (y / 20 + 1)) = true := by simpa using g2
            have e := hidden (by rw [hy']; unfold cl rw'; rw [if_neg q1, if_pos q2, if_neg g1, if_pos g2] : y' = hi)
            clear hy'
            go_wp2_with fail
            go_meet
            exact ⟨by rw [e.out], by rw [H5.out]; rfl, by rw [HX.out, e.out], rfl⟩
          have k2 : decide (hi < y + (y / 20 + 1)) = false := by simpa using g2
          have e := hidden (by rw [hy']; unfold cl rw'; rw [if_neg q1, if_pos q2, if_neg g1, if_neg g2]; omega : y' = y + y / 20 + 1)
          clear hy'
          go_wp2_with fail
          go_meet
          exact ⟨by rw [e.out], by rw [H5.out]; rfl, by rw [HX.out, e.out], rfl⟩
        have d5 : decide (a * 50 < b) = false := by simpa using q2
        by_cases g1 : y < lo
        · exact absurd g1 (by omega)
        have k1 : decide (y < lo) = false := by simpa using g1
        by_cases g2 : hi < y
        · exact absurd g2 (by omega)
        have k2 : decide (hi < y) = false := by simpa using g2
        have e := hidden (by rw [hy']; unfold cl rw'; rw [if_neg q1, if_neg q2, if_neg g1, if_neg g2] : y' = y)
        clear hy'
        go_wp2_with fail
        go_meet
        exact ⟨by rw [e.out], by rw [H5.out]; rfl, by rw [HX.out, e.out], rfl⟩
    case rest =>
    obtain ⟨rfl, rfl, rfl, rfl⟩ := hcut
    clear HP HPC i0 i1 i2 i3
    go_wp2_with fail
    refine HC.out.mono ?_
    rintro ev w9 ⟨rfl, h1, h2⟩
    have HR9 : Hid (RSt w w9 g y' lo hi) := ⟨h1, HN.out, HR.out.bel.trans (h2.below HR.out.bel.size (by simp; exact HR.out.hg)), HR.out.hg⟩
    clear h1 h2 HC HN HR
    go_wp2_with fail
    refine (HE.out f5 _ (by omega) HR9.out.bel).mono ?_
    rintro ev w10 ⟨rfl, h2⟩
    have HR10 := hidden (HR9.out.next h2)
    clear h2 HR9
    go_wp2_with fail
    refine (rate_calls g y' lo hi _ HR10.out.at_).mono ?_
    rintro ev w' ⟨rfl, hw⟩
    obtain rfl := hw.symm
    go_wp2_with fail
    go_roundg (30 - (j + 1))
    case measure => omega
    case rel => exact ⟨j + 1, y', by omega, rfl, by go_num, HR10⟩
  · obtain rfl := hw.symm
    have d : ((f4 : Int) != 0) = true := by simpa using h40
    go_wp2_with fail
    refine (HE.out f4 _ (by omega) HW6.out).mono ?_
    rintro ev w8 ⟨rfl, h2⟩
    have HW8 : Hid (Below w.heap.size w w8) := HW6.out.trans (h2.mono HW6.out.size)
    clear h2 HW6
    go_wp2_with fail
    go_ret
    exact ⟨rfl, HW8.out⟩
end Go.Proofs.YtdoljkiklnaioagDoor.RShares
