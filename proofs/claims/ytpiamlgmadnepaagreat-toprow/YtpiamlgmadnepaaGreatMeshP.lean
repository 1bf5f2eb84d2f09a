/-
  What Calm of package mesh returns, and what it leaves in memory: for whatever holds of the lofts and is kept by what lands, and by a tick.
-/
import Derived.Test.YtpiamlgmadnepaaGreatMeshO
namespace Go.Proofs.YtpiamlgmadnepaaGreat.MS
open Go.ChangeShapes Go.WideShapes Go.ChangeAt Go.RowKit Go.Maps Go.Proofs.YtpiamlgmadnepaaGreat.Mem Go.Proofs.YtpiamlgmadnepaaGreat.NO Go.Proofs.YtpiamlgmadnepaaGreat.ND
set_option linter.unusedVariables false

/-- kept by all that lands from the front, and it ends -/
structure Falls (I : Nat → Ms → Prop) : Prop where
  ok : ∀ g M, I g M → MOk M ∧ M.fl.length ≤ 500000
  step : ∀ g M f F, I g M → M.fl = f :: F → ∃ m, Lands M f m ∧ ∀ bv, ∃ g', g' < g ∧ I g' (M.land 0 f m bv)
set_option maxHeartbeats 1000000 in
theorem landAll_calls (I : Nat → Ms → Prop) (hF : Falls I) (g0 b : Nat) (o : Nat → Tg) (P : MP) (M : Ms) (w : World) (h : MAt w o b P M) (hI : I g0 M) :
    Calls Tryz.prog 48 #[.pointer (some ⟨b, 0, none⟩)] w fun e w' => e = .returned (.bool (decide (0 < M.fl.length))) ∧ ∃ g' M', MDone w w' o b M' ∧ I g' M' ∧ M'.fl = [] := by
  obtain ⟨D, hD⟩ : ∃ D : World → Nat → Ms → Prop, (fun W g M' => MDone w W o b M' ∧ I g M') = D := ⟨_, rfl⟩
  have hDe : ∀ W g M', D W g M' ↔ MDone w W o b M' ∧ I g M' := fun W g M' => by rw [← hD]
  have HFl : Hid (∀ W g M', D W g M' → Calls Tryz.prog 60 #[.pointer (some ⟨b, 0, none⟩)] W fun e w' => e = .returned (.int .i64 (M'.fl.length : Int)) ∧ w' = W) := by
    refine hidden ?_
    intro W g M' hA
    obtain ⟨⟨o1, P1, g1, g2, g3⟩, g4⟩ := (hDe _ _ _).1 hA
    exact flying_calls b o1 P1 M' W g1
  have HLand : Hid (∀ W g M', D W g M' → 0 < M'.fl.length → Calls Tryz.prog 41 #[.pointer (some ⟨b, 0, none⟩), .int .i64 0] W fun e w' => e = .returned .nilIface ∧ ∃ g2 M2, g2 < g ∧ Hid (D w' g2 M2)) := by
    refine hidden ?_
    intro W g M' hA hl
    obtain ⟨⟨o1, P1, g1, g2, g3⟩, g4⟩ := (hDe _ _ _).1 hA
    obtain ⟨f, F, hf⟩ : ∃ f F, M'.fl = f :: F := by
      cases e : M'.fl with
      | nil => rw [e] at hl; simp at hl
      | cons f F => exact ⟨f, F, rfl⟩
    obtain ⟨m, hL, hm⟩ := hF.step g M' f F g4 hf
    obtain ⟨k1, k2⟩ := hF.ok g M' g4
    refine (land_calls b o1 P1 M' 0 f m W g1 k1 (by rw [hf]; rfl) hL k2).mono ?_
    rintro e w' ⟨rfl, bv, hd⟩
    obtain ⟨o2, P2, r1, r2, r3⟩ := hd
    obtain ⟨g', hlt, hI'⟩ := hm bv
    exact ⟨rfl, g', _, hlt, hidden ((hDe _ _ _).2 ⟨⟨o2, P2, r1, g2.trans r2 g3.size, Chg.keep g3 r3 g2⟩, hI'⟩)⟩
  have HFin : Hid (∀ W g M', D W g M' → M'.fl.length = 0 → ∃ g' M', MDone w W o b M' ∧ I g' M' ∧ M'.fl = []) := by
    refine hidden ?_
    intro W g M' hA h0
    obtain ⟨g1, g4⟩ := (hDe _ _ _).1 hA
    exact ⟨g, M', g1, g4, List.eq_nil_of_length_eq_zero h0⟩
  have HD0 : Hid (D w g0 M) := hidden ((hDe _ _ _).2 ⟨MDone.refl h (Below.refl _ _), hI⟩)
  obtain ⟨R, hR⟩ : ∃ R : World → Prop, (fun W => ∃ g' M', MDone w W o b M' ∧ I g' M' ∧ M'.fl = []) = R := ⟨_, rfl⟩
  have hRe : ∀ W, (∃ g' M', MDone w W o b M' ∧ I g' M' ∧ M'.fl = []) = R W := fun W => by rw [← hR]
  simp only [hRe] at HFin ⊢
  have C0 := hidden (HFl.out w g0 M HD0.out)
  obtain ⟨n0, hn0⟩ : ∃ n0, M.fl.length = n0 := ⟨_, rfl⟩
  rw [hn0] at C0 ⊢
  clear h hI hF hD hDe hR hRe hn0
  go_enter Tryz.func48, Tryz.ntmps48
  go_wp2_with fail
  refine C0.out.mono ?_
  rintro e w1 ⟨rfl, hw1⟩
  obtain rfl : w = w1 := hw1.symm
  clear C0
  go_wp2_with fail
  go_loopg [7] g0 (fun g x wx => ∃ M', Hid (D wx g M'))
  case atStart => exact ⟨M, HD0⟩
  case round =>
    obtain ⟨M', HD⟩ := hrel
    have C1 := hidden (HFl.out wr gk M' HD.out)
    by_cases hl : 0 < M'.fl.length
    · have CL := hidden (HLand.out wr gk M' HD.out hl)
      obtain ⟨nl, hnl⟩ : ∃ nl, M'.fl.length = nl := ⟨_, rfl⟩
      rw [hnl] at C1 hl
      have hlz : (0 : Int) < (nl : Int) := Int.ofNat_lt.2 hl
      clear HD hnl hl
      go_wp2_with fail
      refine C1.out.mono ?_
      rintro e w2 ⟨rfl, hw2⟩
      obtain rfl : wr = w2 := hw2.symm
      clear C1
      go_wp2_with fail
      refine CL.out.mono ?_
      rintro e w3 ⟨rfl, g2, M2, hlt, HD2⟩
      go_wp2_with fail
      go_roundg g2
      case measure => exact hlt
      case rel => exact ⟨M2, HD2⟩
    · have h0 : M'.fl.length = 0 := by omega
      have HR := hidden (HFin.out wr gk M' HD.out h0)
      rw [h0] at C1
      clear HD HLand HFin HFl h0 hl
      go_wp2_with fail
      refine C1.out.mono ?_
      rintro e w2 ⟨rfl, hw2⟩
      obtain rfl : wr = w2 := hw2.symm
      clear C1
      go_wp2_with fail
      go_ret
      exact ⟨rfl, HR.out⟩
/-- a round of Calm -/
structure Round (J : Nat → Nat → Ms → Prop) : Prop where
  go : ∀ r c M, J r c M → r < 60 → c < 2 → ∃ (I : Nat → Ms → Prop) (g0 : Nat), Falls I ∧ I g0 M ∧ ∀ g' M', I g' M' → M'.fl = [] → M'.nw + 3 ≤ 1000000 ∧ (∀ i, i < M'.n → NoGive (M'.nd i) (M'.nw + 3)) ∧ J (r + 1) (if M.fl.length = 0 then c + 1 else 0) (M'.ticked (M'.nw + 3) M'.n)
set_option maxHeartbeats 1000000 in
theorem calm_calls (J : Nat → Nat → Ms → Prop) (hJ : Round J) (b : Nat) (o : Nat → Tg) (P : MP) (M : Ms) (w : World) (h : MAt w o b P M) (h0 : J 0 0 M) :
    Calls Tryz.prog 13 #[.pointer (some ⟨b, 0, none⟩)] w fun e w' => ∃ r c M', e = .returned (.int .i64 ((r : Nat) : Int)) ∧ r ≤ 60 ∧ (r = 60 ∨ 2 ≤ c) ∧ J r c M' ∧ MDone w w' o b M' := by
  obtain ⟨D, hD⟩ : ∃ D : World → Nat → Nat → Prop, (fun W r c => ∃ M', MDone w W o b M' ∧ J r c M') = D := ⟨_, rfl⟩
  have hDe : ∀ W r c, D W r c ↔ ∃ M', MDone w W o b M' ∧ J r c M' := fun W r c => by rw [← hD]
  obtain ⟨D1, hD1⟩ : ∃ D1 : World → Nat → Nat → Prop, (fun W r c => ∃ M', MDone w W o b M' ∧ MOk M' ∧ M'.fl = [] ∧ M'.nw + 3 ≤ 1000000 ∧ (∀ i, i < M'.n → NoGive (M'.nd i) (M'.nw + 3)) ∧ J r c (M'.ticked (M'.nw + 3) M'.n)) = D1 := ⟨_, rfl⟩
  have hD1e : ∀ W r c, D1 W r c ↔ ∃ M', MDone w W o b M' ∧ MOk M' ∧ M'.fl = [] ∧ M'.nw + 3 ≤ 1000000 ∧ (∀ i, i < M'.n → NoGive (M'.nd i) (M'.nw + 3)) ∧ J r c (M'.ticked (M'.nw + 3) M'.n) := fun W r c => by rw [← hD1]
  have HAll : Hid (∀ W r c, D W r c → r < 60 → c < 2 → Calls Tryz.prog 48 #[.pointer (some ⟨b, 0, none⟩)] W fun e w' => ∃ d, e = .returned (.bool d) ∧ Hid (D1 w' (r + 1) (if d = true then 0 else c + 1))) := by
    refine hidden ?_
    intro W r c hA hr hc
    obtain ⟨M', ⟨o1, P1, g1, g2, g3⟩, g4⟩ := (hDe _ _ _).1 hA
    obtain ⟨I, g0, k1, k2, k3⟩ := hJ.go r c M' g4 hr hc
    refine (landAll_calls I k1 g0 b o1 P1 M' W g1 k2).mono ?_
    rintro e w' ⟨rfl, g', M2, ⟨o2, P2, r1, r2, r3⟩, r4, r5⟩
    obtain ⟨k4, k5, k6⟩ := k3 g' M2 r4 r5
    refine ⟨_, rfl, hidden ((hD1e _ _ _).2 ⟨M2, ⟨o2, P2, r1, g2.trans r2 g3.size, Chg.keep g3 r3 g2⟩, (k1.ok g' M2 r4).1, r5, k4, k5, ?_⟩)⟩
    have e : (if decide (0 < M'.fl.length) = true then 0 else c + 1) = (if M'.fl.length = 0 then c + 1 else 0) := by
      by_cases hz : M'.fl.length = 0
      · rw [if_pos hz, if_neg (by rw [hz]; simp)]
      · rw [if_neg hz, if_pos (by simp; omega)]
    rw [e]
    exact k6
  have HTick : Hid (∀ W r c, D1 W r c → Calls Tryz.prog 44 #[.pointer (some ⟨b, 0, none⟩), .int .i64 3] W fun e w' => e = .returned .nilIface ∧ Hid (D w' r c)) := by
    refine hidden ?_
    intro W r c hA
    obtain ⟨M', ⟨o1, P1, g1, g2, g3⟩, g4, g5, g6, g7, g8⟩ := (hD1e _ _ _).1 hA
    refine (tick_calls b o1 P1 M' 3 W g1 g4 (by omega) (by omega) g6 g7 (by rw [g5]; simp)).mono ?_
    rintro e w' ⟨rfl, o2, P2, r1, r2, r3⟩
    exact ⟨rfl, hidden ((hDe _ _ _).2 ⟨_, ⟨o2, P2, r1, g2.trans r2 g3.size, Chg.keep g3 r3 g2⟩, g8⟩)⟩
  have HFin : Hid (∀ W r c, D W r c → r ≤ 60 → (r = 60 ∨ 2 ≤ c) → ∃ r' c M', Value.int .i64 (r : Int) = Value.int .i64 ((r' : Nat) : Int) ∧ r' ≤ 60 ∧ (r' = 60 ∨ 2 ≤ c) ∧ J r' c M' ∧ MDone w W o b M') := by
    refine hidden ?_
    intro W r c hA hr hc
    obtain ⟨M', g1, g4⟩ := (hDe _ _ _).1 hA
    exact ⟨r, c, M', rfl, hr, hc, g4, g1⟩
  have HD0 : Hid (D w 0 0) := hidden ((hDe _ _ _).2 ⟨M, MDone.refl h (Below.refl _ _), h0⟩)
  obtain ⟨R, hR⟩ : ∃ R : Value → World → Prop, (fun v W => ∃ (r' c : Nat) (M' : Ms), v = Value.int .i64 (r' : Int) ∧ r' ≤ 60 ∧ (r' = 60 ∨ 2 ≤ c) ∧ J r' c M' ∧ MDone w W o b M') = R := ⟨_, rfl⟩
  have hRe : ∀ v W, (∃ (r' c : Nat) (M' : Ms), v = Value.int .i64 (r' : Int) ∧ r' ≤ 60 ∧ (r' = 60 ∨ 2 ≤ c) ∧ J r' c M' ∧ MDone w W o b M') = R v W := fun v W => by rw [← hR]
  have HFin2 : Hid (∀ W r c, D W r c → r ≤ 60 → (r = 60 ∨ 2 ≤ c) → R (.int .i64 (r : Int)) W) := hidden (fun W r c hA hr hc => by rw [← hRe]; exact HFin.out W r c hA hr hc)
  suffices hS : Calls Tryz.prog 13 #[.pointer (some ⟨b, 0, none⟩)] w fun e w' => ∃ v, e = .returned v ∧ R v w' by
    refine hS.mono ?_
    rintro e w' ⟨v, rfl, hr⟩
    rw [← hRe] at hr
    obtain ⟨r, c, M', rfl, k1, k2, k3, k4⟩ := hr
    exact ⟨r, c, M', rfl, k1, k2, k3, k4⟩
  clear h h0 hJ hD hDe hD1 hD1e hR hRe HFin
  go_enter Tryz.func13, Tryz.ntmps13
  go_wp2_with fail
  go_loopg [3, 4] 60 (fun g x y wx => ∃ (r c : Nat), r + g = 60 ∧ x = .int .i64 (r : Int) ∧ y = .int .i64 (c : Int) ∧ c ≤ 100 ∧ Hid (D wx r c))
  case atStart => exact ⟨0, 0, by omega, rfl, rfl, by omega, HD0⟩
  case round =>
    obtain ⟨r, c, hrg, rfl, rfl, hc100, HD⟩ := hrel
    by_cases hr : r < 60
    · have hrz : (r : Int) < 60 := by omega
      by_cases hc : c < 2
      · have hcz : (c : Int) < 2 := by omega
        have CA := hidden (HAll.out wr r c HD.out hr hc)
        clear HD HFin2
        go_wp2_with fail
        refine CA.out.mono ?_
        rintro e w2 ⟨d, rfl, HE⟩
        have CT := hidden (HTick.out w2 _ _ HE.out)
        clear CA HE
        cases d with
        | true =>
          rw [if_pos rfl] at CT
          go_wp2_with fail
          refine CT.out.mono ?_
          rintro e w3 ⟨rfl, HD3⟩
          go_wp2_with fail
          go_roundg (60 - (r + 1))
          case measure => omega
          case rel => exact ⟨r + 1, 0, by omega, by go_num, rfl, by omega, HD3⟩
        | false =>
          rw [if_neg (by decide)] at CT
          go_wp2_with fail
          refine CT.out.mono ?_
          rintro e w3 ⟨rfl, HD3⟩
          go_wp2_with fail
          go_roundg (60 - (r + 1))
          case measure => omega
          case rel => exact ⟨r + 1, c + 1, by omega, by go_num, by go_num, by omega, HD3⟩
      · have hcz : ¬ (c : Int) < 2 := by omega
        have HR := hidden (HFin2.out wr r c HD.out (by omega) (.inr (by omega)))
        clear HD HFin2 HAll HTick
        go_wp2_with fail
        go_ret
        exact ⟨_, rfl, HR.out⟩
    · have hrz : ¬ (r : Int) < 60 := by omega
      have HR := hidden (HFin2.out wr r c HD.out (by omega) (.inl (by omega)))
      clear HD HFin2 HAll HTick
      go_wp2_with fail
      go_ret
      exact ⟨_, rfl, HR.out⟩
end Go.Proofs.YtpiamlgmadnepaaGreat.MS

