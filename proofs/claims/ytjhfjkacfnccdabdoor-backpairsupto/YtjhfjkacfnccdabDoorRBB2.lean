/-
  What the reference's function BackBytes returns, whatever is said back, and what it makes. It changes nothing that was there.
-/
import Derived.Test.YtjhfjkacfnccdabDoorRBB
namespace Go.Proofs.YtjhfjkacfnccdabDoor.Back
open Go.ChangeShapes Go.WideShapes Go.ChangeAt Go.RowKit Go.Sort Go.Lib Go.Proofs.YtjhfjkacfnccdabDoor.BM Go.Proofs.YtjhfjkacfnccdabDoor.Mem
set_option linter.unusedVariables false

def bad1 (k t u : Int) : Bool := decide (t < 1 ∨ 8 < t ∨ ¬ (0 ≤ u ∧ u ≤ most k))
def bad2 (k : Int) (n : Nat) : Bool := decide (k = 1) == decide (n = 0)
def most0 (k : Int) : Int := if k = 3 then 1000000 else if k = 2 then 3 else 0
theorem most_low {k : Int} (h : k < 1) : most k = -1 := by
  unfold most; rw [if_neg (by omega), if_neg (by omega), if_neg (by omega)]
theorem most_high {k : Int} (h : 3 < k) : most k = -1 := by
  unfold most; rw [if_neg (by omega), if_neg (by omega), if_neg (by omega)]
theorem most_same {k : Int} (h : 1 ≤ k) (h' : k ≤ 3) : most k = most0 k := by
  have : k = 1 ∨ k = 2 ∨ k = 3 := by omega
  rcases this with rfl | rfl | rfl <;> rfl
theorem ef_one {k t u : Int} {L : List Int} (h : bad1 k t u = true) : efault k t L u = 1 := by
  have : cfault k t L u = 1 := by unfold cfault; rw [if_pos (of_decide_eq_true h)]
  unfold efault; rw [if_neg (by rw [this]; decide), this]
theorem ef_three {k t u : Int} {L : List Int} (h : bad1 k t u = false) (h2 : bad2 k L.length = true ∨ ¬ Rises L) : efault k t L u = 3 := by
  have : cfault k t L u = 3 := by
    unfold cfault
    rw [if_neg (of_decide_eq_false h), if_pos]
    rw [Bool.or_eq_true]
    rcases h2 with h2 | h2
    · exact .inl h2
    · exact .inr (by simpa using h2)
  unfold efault; rw [if_neg (by rw [this]; decide), this]
theorem ef_rest {k t u : Int} {L : List Int} (h : bad1 k t u = false) (h2 : bad2 k L.length = false) (h3 : Rises L) : efault k t L u = pfault L := by
  have : cfault k t L u = 0 := by
    unfold cfault
    rw [if_neg (of_decide_eq_false h), if_neg]
    rw [Bool.or_eq_true, not_or]
    exact ⟨by rw [Bool.not_eq_true]; exact h2, by simpa using h3⟩
  unfold efault; rw [if_pos this]

set_option maxHeartbeats 8000000 in
set_option maxRecDepth 100000 in
theorem rbb_gen (k t : Int) (a : Option Addr) (n cap : Nat) (u : Int) (L : List Int) (w : World) (h : IArg w a n L) (hn : a = none → n = 0 ∧ cap = 0) :
    Calls Tryd.prog 29 #[.agg #[.int .i64 k, .int .i64 t, .slice a n cap, .int .i64 u]] w fun e w' => ∃ a' m c', e = .returned (.tuple #[.slice a' m c', .int .i64 (efault k t L u : Int)]) ∧ Arg w' a' m (encB k t L u) ∧ (a' = none → m = 0 ∧ c' = 0) ∧ m ≤ c' ∧ Below w.heap.size w w' := by
  have hl := h.2.1
  have hmax := h.2.2
  have HNO : Hid (∀ c : Nat, c ≠ 0 → efault k t L u = c → encB k t L u = []) := fun c hc e => by rw [encB, if_neg (by omega)]
  have HE1 : Hid (bad1 k t u = true → efault k t L u = 1) := ef_one
  have HE2 : Hid (bad1 k t u = false → bad2 k n = true → efault k t L u = 3) := fun h1 h2 => ef_three h1 (.inl (by rw [hl]; exact h2))
  have HE3 : Hid (bad1 k t u = false → ¬ Rises L → efault k t L u = 3) := fun h1 h2 => ef_three h1 (.inr h2)
  have HE4 : Hid (bad1 k t u = false → bad2 k n = false → Rises L → efault k t L u = pfault L) := fun h1 h2 h3 => ef_rest h1 (by rw [hl]; exact h2) h3
  have HPG := hidden (fun W hW => rpairs_gen a n cap L W (IArg.below h hW))
  have HI := hidden h
  have HX0 := hidden (BBox.new w k t (.slice a n cap) u)
  have HB0 : Hid (Below w.heap.size w (w.alloc (.cells #[.int .i64 k, .int .i64 t, .slice a n cap, .int .i64 u] 56))) := (Below.refl _ _).alloc (Nat.le_refl _) _
  have HFIN : Hid (efault k t L u = 0 → (k = 1 ∨ k = 2 ∨ k = 3) ∧ 1 ≤ t ∧ t ≤ 8 ∧ 0 ≤ u ∧ u ≤ 1000000 ∧ (k ≠ 1 → prsOf L = []) ∧ (prsOf L).length ≤ 200 ∧ (∀ p ∈ prsOf L, ∃ b : Nat, p.1 = b ∧ b < 65536 ∧ p.2 < 65536) ∧
      encB k t L u = k.toNat :: t.toNat :: ((if k = 2 then be 1 u.toNat else if k = 3 then be 4 u.toNat else []) ++ pbytes (prsOf L))) := fun hz => by
    obtain ⟨hc, hp⟩ := efault_zero hz
    obtain ⟨hk, t1, t8, u0, um, hkl, hris⟩ := cfault_zero hc
    have hme := most_le k
    obtain ⟨b1, b2, b3, b4, b5, hfit⟩ := back_again hp
    have hL := (pfault_zero hp).2
    have hl200 := (pfault_zero hp).1
    refine ⟨hk, t1, t8, u0, by omega, fun h1 => ?_, by omega, fun p hp => ?_, by rw [encB, if_pos hz]; rfl⟩
    · have h0 : L.length = 0 := by
        by_cases h0 : L.length = 0
        · exact h0
        · exact absurd (hkl.2 h0) h1
      exact List.eq_nil_of_length_eq_zero (by omega)
    · have hb := hL p.1 (((norm_of L).2 _).1 (hfit.base p hp))
      exact ⟨p.1.toNat, by omega, by omega, hfit.mask p hp⟩
  obtain ⟨B1, hB1⟩ : ∃ b, bad1 k t u = b := ⟨_, rfl⟩
  obtain ⟨B2, hB2⟩ : ∃ b, bad2 k n = b := ⟨_, rfl⟩
  rw [hB1] at HE1 HE2 HE3 HE4
  rw [hB2] at HE2 HE4
  have HB1 := hidden hB1
  have HB2 := hidden hB2
  clear h hn hB1 hB2
  generalize efault k t L u = F at *
  generalize encB k t L u = EB at *
  generalize prsOf L = l at *
  generalize pfault L = PF at *
  go_enter Tryd.func29, Tryd.ntmps29
  go_upto_if 12 with fail
  go_cut [4] from 13 (fun x wx => x = .int .i64 (if k = 2 then 3 else 0) ∧ wx = w.alloc (.cells #[.int .i64 k, .int .i64 t, .slice a n cap, .int .i64 u] 56))
  case first =>
    by_cases e2 : k = 2
    · have b2 : (k == 2) = true := by rw [e2]; rfl
      have i2 : (if k = 2 then (3 : Int) else 0) = 3 := if_pos e2
      clear e2
      go_wp2_with fail
      go_meet
      exact ⟨by rw [i2], rfl⟩
    · have b2 : (k == 2) = false := by rw [beq_eq_false_iff_ne]; exact e2
      have i2 : (if k = 2 then (3 : Int) else 0) = 0 := if_neg e2
      clear e2
      go_wp2_with fail
      go_meet
      exact ⟨by rw [i2], rfl⟩
  case rest =>
  obtain ⟨rfl, rfl⟩ := hcut
  obtain ⟨m1, hm1⟩ : ∃ m, (if k = 2 then (3 : Int) else 0) = m := ⟨_, rfl⟩
  rw [hm1]
  have HM1 := hidden hm1
  clear hm1
  go_upto_if 15 with fail
  go_cut [4] from 16 (fun x wx => x = .int .i64 (most0 k) ∧ wx = w.alloc (.cells #[.int .i64 k, .int .i64 t, .slice a n cap, .int .i64 u] 56))
  case first =>
    by_cases e3 : k = 3
    · have b3 : (k == 3) = true := by rw [e3]; rfl
      have i3 : most0 k = 1000000 := if_pos e3
      clear e3
      go_wp2_with fail
      go_meet
      exact ⟨by rw [i3], rfl⟩
    · have b3 : (k == 3) = false := by rw [beq_eq_false_iff_ne]; exact e3
      have i3 : most0 k = m1 := by unfold most0; rw [if_neg e3]; exact HM1.out
      clear e3
      go_wp2_with fail
      go_meet
      exact ⟨by rw [i3], rfl⟩
  case rest =>
  obtain ⟨rfl, rfl⟩ := hcut
  have HSAME : Hid (1 ≤ k → k ≤ 3 → most k = most0 k) := most_same
  have HLOW : Hid (k < 1 → most k = -1) := most_low
  have HHIGH : Hid (3 < k → most k = -1) := most_high
  have HBD : Hid (B1 = decide (t < 1 ∨ 8 < t ∨ ¬ (0 ≤ u ∧ u ≤ most k))) := HB1.out.symm
  generalize most0 k = mz at *
  generalize most k = mm at *
  go_upto_region 6 with fail
  go_cut [44] from 16 (fun x wx => x = .bool B1 ∧ wx = w.alloc (.cells #[.int .i64 k, .int .i64 t, .slice a n cap, .int .i64 u] 56))
  case first =>
    by_cases p1 : k < 1
    · have d1 : decide (k < 1) = true := by simpa using p1
      have eb : B1 = true := by rw [HBD.out, HLOW.out p1]; simp; omega
      go_wp2_with fail
      go_meet
      exact ⟨by rw [eb], rfl⟩
    have d1 : decide (k < 1) = false := by simpa using p1
    by_cases p2 : 3 < k
    · have d2 : decide (3 < k) = true := by simpa using p2
      have eb : B1 = true := by rw [HBD.out, HHIGH.out p2]; simp; omega
      go_wp2_with fail
      go_meet
      exact ⟨by rw [eb], rfl⟩
    have d2 : decide (3 < k) = false := by simpa using p2
    have esame := HSAME.out (by omega) (by omega)
    have HSM := hidden esame
    clear esame
    by_cases p3 : t < 1
    · have d3 : decide (t < 1) = true := by simpa using p3
      have eb : B1 = true := by rw [HBD.out]; simp [p3]
      go_wp2_with fail
      go_meet
      exact ⟨by rw [eb], rfl⟩
    have d3 : decide (t < 1) = false := by simpa using p3
    by_cases p4 : 8 < t
    · have d4 : decide (8 < t) = true := by simpa using p4
      have eb : B1 = true := by rw [HBD.out]; simp [p4]
      go_wp2_with fail
      go_meet
      exact ⟨by rw [eb], rfl⟩
    have d4 : decide (8 < t) = false := by simpa using p4
    by_cases p5 : u < 0
    · have d5 : decide (u < 0) = true := by simpa using p5
      have eb : B1 = true := by rw [HBD.out, decide_eq_true_eq]; right; right; omega
      go_wp2_with fail
      go_meet
      exact ⟨by rw [eb], rfl⟩
    have d5 : decide (u < 0) = false := by simpa using p5
    by_cases p6 : mz < u
    · have d6 : decide (mz < u) = true := by simpa using p6
      have eb : B1 = true := by rw [HBD.out, decide_eq_true_eq, HSM.out]; right; right; omega
      go_wp2_with fail
      go_meet
      exact ⟨by rw [eb], rfl⟩
    have d6 : decide (mz < u) = false := by simpa using p6
    have eb : B1 = false := by rw [HBD.out, decide_eq_false_iff_not, HSM.out]; omega
    go_wp2_with fail
    go_meet
    exact ⟨by rw [eb], rfl⟩
  case rest =>
  obtain ⟨rfl, rfl⟩ := hcut
  clear HSAME HLOW HHIGH HBD
  cases B1 with
  | true =>
    have hF := HE1.out (by first | rfl | trivial)
    have hEB := HNO.out 1 (by decide) hF
    subst hF hEB
    go_wp2_with fail
    go_ret2
    exact ⟨none, 0, 0, rfl, ⟨Bys.nil _ _, rfl, by omega⟩, fun _ => ⟨rfl, rfl⟩, Nat.le_refl _, HB0.out⟩
  | false =>
  go_upto_region 8 with fail
  go_cut [64] from 45 (fun x wx => x = .bool B2 ∧ wx = w.alloc (.cells #[.int .i64 k, .int .i64 t, .slice a n cap, .int .i64 u] 56))
  case first =>
    have hB2 : B2 = (decide (k = 1) == decide (n = 0)) := HB2.out.symm
    by_cases p1 : k = 1
    · have d1 : (k == 1) = true := by rw [p1]; rfl
      have d1' : (k != 1) = false := by rw [p1]; rfl
      have eb : B2 = ((n : Int) == 0) := by rw [hB2, Bool.eq_iff_iff]; simp [p1]
      obtain ⟨z, hz⟩ : ∃ z, ((n : Int) == 0) = z := ⟨_, rfl⟩
      rw [hz] at eb
      clear p1 hB2
      cases z with
      | true =>
        go_wp2_with fail
        go_meet
        exact ⟨by rw [eb], rfl⟩
      | false =>
        go_wp2_with fail
        go_meet
        exact ⟨by rw [eb], rfl⟩
    · have d1 : (k == 1) = false := by rw [beq_eq_false_iff_ne]; exact p1
      have d1' : (k != 1) = true := by rw [bne_iff_ne]; exact p1
      obtain ⟨z, hz⟩ : ∃ z, decide ((0 : Int) < (n : Int)) = z := ⟨_, rfl⟩
      have eb : B2 = z := by
        rw [hB2, ← hz, Bool.eq_iff_iff]
        simp [p1]
        omega
      clear p1 hB2
      cases z with
      | true =>
        go_wp2_with fail
        go_meet
        exact ⟨by rw [eb]; first | rfl | (simp; omega) | simp_all, rfl⟩
      | false =>
        go_wp2_with fail
        go_meet
        exact ⟨by rw [eb]; first | rfl | (simp; omega) | simp_all, rfl⟩
  case rest =>
  obtain ⟨rfl, rfl⟩ := hcut
  cases B2 with
  | true =>
    have hF := HE2.out (by first | rfl | trivial) (by first | rfl | trivial)
    have hEB := HNO.out 3 (by decide) hF
    subst hF hEB
    go_wp2_with fail
    go_ret2
    exact ⟨none, 0, 0, rfl, ⟨Bys.nil _ _, rfl, by omega⟩, fun _ => ⟨rfl, rfl⟩, Nat.le_refl _, HB0.out⟩
  | false =>
  have HRT1 : Hid (Rises (L.take 1)) := by
    match L with
    | [] => exact List.Pairwise.nil
    | x :: r => exact List.pairwise_singleton _ _
  obtain ⟨w1, hw1⟩ : ∃ w1, w.alloc (.cells #[.int .i64 k, .int .i64 t, .slice a n cap, .int .i64 u] 56) = w1 := ⟨_, rfl⟩
  rw [hw1] at HX0 HB0 ⊢
  clear hw1
  go_wp2_with fail
  go_loopg [5] n (fun g y wr => ∃ (i : Nat), 1 ≤ i ∧ n - i ≤ g ∧ (i ≤ n ∨ i = 1) ∧ y = .int .i64 (i : Int) ∧ Hid (Below w1.heap.size w1 wr ∧ Rises (L.take i)))
  case atStart => exact ⟨1, Nat.le_refl _, by omega, .inr rfl, rfl, Below.refl _ _, HRT1⟩
  case round =>
    obtain ⟨i, hi1, hig, hin, rfl, HW⟩ := hrel
    have HXw := hidden (HX0.out.below HW.out.1 HX0.out.lt)
    have HBw := hidden (HB0.out.trans (HW.out.1.mono HB0.out.size))
    obtain ⟨c0, c1, c2, c3⟩ := HXw.out.cells
    by_cases hi : i < n
    · have hiz : (i : Int) < (n : Int) := by omega
      obtain ⟨b1, o1, rfl, h1⟩ := (HI.out.below HBw.out).at (by omega)
      have e1 := h1 i hi
      have e2 := h1 (i - 1) (by omega)
      clear h1
      have ei : ((i : Int) - 1) = ((i - 1 : Nat) : Int) := by omega
      have HN : Hid (L.getD i 0 ≤ L.getD (i - 1) 0 → ¬ Rises L) := fun hx => rises_not hi1 (by omega) hx
      have HY : Hid (L.getD (i - 1) 0 < L.getD i 0 → Rises (L.take (i + 1))) := fun hx => rises_take hi1 (by omega) HW.out.2 hx
      generalize L.getD i 0 = x at *
      generalize L.getD (i - 1) 0 = y at *
      generalize i - 1 = j at *
      by_cases hxy : x ≤ y
      · have hF := HE3.out (by first | rfl | trivial) (HN.out hxy)
        have hEB := HNO.out 3 (by decide) hF
        subst hF hEB
        go_wp2_with fail
        go_quiet (fail)
        go_wp2_with fail
        go_ret2
        exact ⟨none, 0, 0, rfl, ⟨Bys.nil _ _, rfl, by omega⟩, fun _ => ⟨rfl, rfl⟩, Nat.le_refl _, below_drewN' HBw.out _⟩
      · go_wp2_with fail
        go_quiet (fail)
        go_wp2_with fail
        go_roundg (n - (i + 1))
        case measure => omega
        case rel => exact ⟨i + 1, by omega, by omega, by omega, by go_num, below_drewN' HW.out.1 _, HY.out (by omega)⟩
    · have hiz : ¬ (i : Int) < (n : Int) := by omega
      have hris := HW.out.2
      rw [List.take_of_length_le (by omega)] at hris
      have hF := HE4.out (by first | rfl | trivial) (by first | rfl | trivial) hris
      subst hF
      clear hris
      have hltw := HXw.out.lt
      go_wp2_with fail
      refine (HPG.out _ HBw.out).mono ?_
      rintro e w2 ⟨a2, m2, q2, rfl, hP2, _, hb2⟩
      have HB2' := hidden (HBw.out.trans (hb2.mono HBw.out.size))
      have HX2 := hidden (HXw.out.below hb2 hltw)
      have HP2 := hidden hP2
      obtain rfl : m2 = l.length := by have := hP2.2.1; rw [pr_len] at this; exact this.symm
      clear hb2 hP2 c0 c1 c2 c3
      obtain ⟨c0, c1, c2, c3⟩ := HX2.out.cells
      have hlt2 := HX2.out.lt
      by_cases hz : F = 0
      · subst hz
        obtain ⟨hk, t1, t8, u0, um, hnil, hl200, hG, hEB⟩ := HFIN.out rfl
        obtain ⟨t', rfl⟩ : ∃ x : Nat, t = x := ⟨t.toNat, by omega⟩
        obtain ⟨u', rfl⟩ : ∃ x : Nat, u = x := ⟨u.toNat, by omega⟩
        simp only [Int.toNat_natCast] at hEB
        have HEB := hidden hEB
        have HG := hidden hG
        have hw1 : IntKind.u8.wrap (t' : Int) = (t' : Int) := by rw [IntKind.wrap_u8']; omega
        have hwu : IntKind.u8.wrap (u' : Int) = ((u' % 256 : Nat) : Int) := by rw [IntKind.wrap_u8']; omega
        clear hEB hG HFIN HE1 HE2 HE3 HE4 HNO HPG
        obtain ⟨i0, hii, hz0, hz1, hz2⟩ := info_parts info5
        rcases hk with rfl | rfl | rfl
        · have HA : Hid (∀ W v (base k' : Nat) (B : List Nat) (x : Nat), x < 65536 → k' ≤ 100000 → W.ownsRow base 5 1 v k' (cellsOf B) → base ≤ W.heap.size → Calls Tryd.prog 41 #[v, .int .i64 (x : Int), .int .i64 2] W _) := fun W v base k' B x hx hk ho hb => rbytes_calls v base k' B x 2 W ho hb hk (by omega) (by omega) (by omega)
          have HD0 : Hid (Below w2.heap.size w2 (w2.alloc (.cells #[.int .u8 (1 : Int), .int .u8 (t' : Int)] 5)) ∧ (w2.alloc (.cells #[.int .u8 (1 : Int), .int .u8 (t' : Int)] 5)).ownsRow w2.heap.size 5 1 (.slice (some ⟨w2.heap.size, 0, none⟩) 2 2) 2 (cellsOf ([1, t'] ++ pbytes (l.take 0)))) := ⟨(Below.refl _ _).alloc (Nat.le_refl _) _, two_own w2 1 t'⟩
          go_wp2_with fail
          clear c0 c1 c2 c3
          go_loopg [8, 9] l.length (fun g x y wr => ∃ (j : Nat) (v : Value), j + g = l.length ∧ x = v ∧ y = .int .i64 (j : Int) ∧ Hid (Below w2.heap.size w2 wr ∧ wr.ownsRow w2.heap.size 5 1 v (2 + j * 4) (cellsOf ([1, t'] ++ pbytes (l.take j)))))
          case atStart => exact ⟨0, _, by omega, rfl, rfl, HD0⟩
          case round =>
            obtain ⟨j, v, hjg, rfl, rfl, HS⟩ := hrel
            by_cases hj : j < l.length
            · have hjz : (j : Int) < (l.length : Int) := by omega
              obtain ⟨b, o, rfl, hbl, hcs⟩ := HP2.out.at (by omega)
              have HCL : Hid (∀ W, Below w2.heap.size w2 W → W.cell? ⟨b, o + j * 2, none⟩ = some (.int .i64 ((pr l).getD j (0, 0)).1) ∧ W.cell? ⟨b, o + j * 2 + 1, none⟩ = some (.int .i64 ((pr l).getD j (0, 0)).2)) := fun W hW =>
                ⟨(hW.cell (p := ⟨b, o + j * 2, none⟩) hbl).trans (hcs j hj).1, (hW.cell (p := ⟨b, o + j * 2 + 1, none⟩) hbl).trans (hcs j hj).2⟩
              clear hcs
              have hget : l[j]? = some (l[j]'hj) := List.getElem?_eq_getElem hj
              obtain ⟨bn, hb1, hb2, hb3⟩ := HG.out (l[j]'hj) (List.getElem_mem hj)
              have hpr : (pr l).getD j (0, 0) = ((bn : Int), ((l[j]'hj).2 : Int)) := by
                rw [List.getD_eq_getElem?_getD, pr, List.getElem?_map, hget]
                simp [hb1]
              rw [hpr] at HCL
              have HNX : Hid (pbytes (l.take (j + 1)) = pbytes (l.take j) ++ be 2 bn ++ be 2 (l[j]'hj).2) := by
                show _ = _
                rw [← List.take_append_getElem hj, pbytes_snoc, hb1]
                rfl
              generalize (l[j]'hj).2 = mk at *
              clear hpr hget hb1
              obtain ⟨hc0, hc1⟩ := HCL.out wr HS.out.1
              try simp only at hc0 hc1
              go_wp2_with fail
              refine (HA.out _ _ w2.heap.size (2 + j * 4) _ bn hb2 (by omega) HS.out.2 (by have := HS.out.1.size; omega)).mono ?_
              rintro e w3 ⟨v3, rfl, ho3, hbb3⟩
              have HO3 := hidden ho3
              have HB3 := hidden (HS.out.1.trans hbb3)
              clear ho3 hbb3 hc0 hc1
              obtain ⟨hc0, hc1⟩ := HCL.out w3 HB3.out
              try simp only at hc0 hc1
              go_wp2_with fail
              refine (HA.out _ _ w2.heap.size (2 + j * 4 + 2) _ mk hb3 (by omega) HO3.out (by have := HB3.out.size; omega)).mono ?_
              rintro e w4 ⟨v4, rfl, ho4, hbb4⟩
              have HS4 : Hid (Below w2.heap.size w2 w4 ∧ w4.ownsRow w2.heap.size 5 1 v4 (2 + (j + 1) * 4) (cellsOf ([1, t'] ++ pbytes (l.take (j + 1))))) := by
                refine ⟨HB3.out.trans hbb4, ?_⟩
                rw [HNX.out, show 2 + (j + 1) * 4 = 2 + j * 4 + 2 + 2 by omega, ← List.append_assoc, ← List.append_assoc]
                exact ho4
              clear ho4 hbb4 hc0 hc1
              go_wp2_with fail
              go_roundg (l.length - (j + 1))
              case measure => omega
              case rel => exact ⟨j + 1, v4, by omega, rfl, by go_num, HS4⟩
            · have hjz : ¬ (j : Int) < (l.length : Int) := by omega
              have ej : j = l.length := by omega
              subst ej
              have ho := own_is HS.out.2 (show [1, t'] ++ pbytes (l.take l.length) = EB by rw [HEB.out, List.take_length]; simp)
              have hlen : EB.length ≤ 9223372036854775807 := by rw [HEB.out]; simp [pbytes_len]; omega
              have hlt : ∀ c ∈ EB, c < 256 := by
                rw [HEB.out]
                intro c hc
                simp only [List.mem_cons, List.mem_append] at hc
                rcases hc with rfl | rfl | hc | hc
                · decide
                · omega
                · simp at hc
                · exact pbytes_lt _ c hc
              obtain ⟨a', c', rfl, hA, h0, h1, _⟩ := own_slice ho hlt hlen
              have HAA := hidden hA
              have HH0 := hidden h0
              have HH1 := hidden h1
              clear ho hlen hlt hA h0 h1
              go_wp2_with fail
              go_ret2
              exact ⟨a', _, c', rfl, HAA.out, HH0.out, HH1.out, HB2'.out.trans (HS.out.1.mono HB2'.out.size)⟩
        · have e0 := hnil (by decide)
          subst e0
          go_wp2_with (at_builtin; refine wpList_append_own _ rfl _ _ 22 rfl w2.heap.size 5 i0 _ 1 1 Tryd.underlying22 hii hz0 hz1 hz2 rfl (by decide) _ 2 (cellsOf [2, t']) rfl ((two_own w2 2 t').alloc _) ⟨w2.heap.size + 1, 0, none⟩ 1 1 [.int .u8 ((u' % 256 : Nat) : Int)] rfl rfl ?cc ?one ?b1 ?b2 ?b3 ?next)
          case cc => rw [show w2.heap.size + 1 = (w2.alloc (.cells #[.int .u8 (2 : Int), .int .u8 (t' : Int)] 5)).heap.size by simp]; exact lit1 (w := w2.alloc (.cells #[.int .u8 (2 : Int), .int .u8 (t' : Int)] 5)) _
          case one => simp [Value.oneCell']
          case b1 => unfold maxLen; omega
          case b2 => omega
          case b3 => simp; omega
          case next =>
          intro v3 w3 hown hgrow _
          have HB3 : Hid (Below w.heap.size w w3) := by
            have hs := HB2'.out.size
            refine ((HB2'.out.alloc hs _).alloc (by simp; omega) _).grown hgrow (by simp; omega) (fun j hj => ?_)
            simp [Value.ownBlock] at hj
            omega
          have ho := own_is (B := [2, t'] ++ [u' % 256]) (C := EB) (by rw [cellsOf_app]; exact hown) (by rw [HEB.out]; simp [be, pbytes])
          have hlen : EB.length ≤ 9223372036854775807 := by rw [HEB.out]; simp [be_len, pbytes]
          have hlt : ∀ c ∈ EB, c < 256 := by
            rw [HEB.out]
            intro c hc
            simp only [List.mem_cons, List.mem_append] at hc
            rcases hc with rfl | rfl | hc | hc
            · decide
            · omega
            · exact be_lt 1 u' c (by simpa using hc)
            · exact pbytes_lt _ c hc
          obtain ⟨a', c', rfl, hA, h0, h1, _⟩ := own_slice ho hlt hlen
          have HAA := hidden hA
          have HH0 := hidden h0
          have HH1 := hidden h1
          clear ho hlen hlt hA h0 h1 hown hgrow
          go_wp2_with fail
          go_ret2
          exact ⟨a', _, c', rfl, HAA.out, HH0.out, HH1.out, HB3.out⟩
        · have e0 := hnil (by decide)
          subst e0
          have HA : Hid (∀ W v (base : Nat), W.ownsRow base 5 1 v 2 (cellsOf [3, t']) → base ≤ W.heap.size → Calls Tryd.prog 41 #[v, .int .i64 (u' : Int), .int .i64 4] W _) := fun W v base ho hb => rbytes_calls v base 2 [3, t'] u' 4 W ho hb (by omega) (by omega) (by omega) (by omega)
          go_wp2_with fail
          refine (HA.out _ _ _ (two_own w2 3 t') (by simp)).mono ?_
          rintro e w3 ⟨v3, rfl, ho3, hb3⟩
          have HB3 := hidden (HB2'.out.trans ((((Below.refl w2.heap.size w2).alloc (Nat.le_refl _) _).trans hb3).mono HB2'.out.size))
          have ho := own_is ho3 (show [3, t'] ++ be 4 u' = EB by rw [HEB.out]; simp [pbytes])
          have hlen : EB.length ≤ 9223372036854775807 := by rw [HEB.out]; simp [be_len, pbytes]
          have hlt : ∀ c ∈ EB, c < 256 := by
            rw [HEB.out]
            intro c hc
            simp only [List.mem_cons, List.mem_append] at hc
            rcases hc with rfl | rfl | hc | hc
            · decide
            · omega
            · exact be_lt 4 u' c (by simpa using hc)
            · exact pbytes_lt _ c hc
          obtain ⟨a', c', rfl, hA, h0, h1, _⟩ := own_slice ho hlt hlen
          have HAA := hidden hA
          have HH0 := hidden h0
          have HH1 := hidden h1
          clear ho hlen hlt hA h0 h1 ho3 hb3
          go_wp2_with fail
          go_ret2
          exact ⟨a', _, c', rfl, HAA.out, HH0.out, HH1.out, HB3.out⟩
      · have hne : ((F : Int) != 0) = true := by rw [bne_iff_ne]; omega
        have hEB := HNO.out F hz rfl
        subst hEB
        go_wp2_with fail
        go_ret2
        exact ⟨none, 0, 0, rfl, ⟨Bys.nil _ _, rfl, by omega⟩, fun _ => ⟨rfl, rfl⟩, Nat.le_refl _, HB2'.out⟩
end Go.Proofs.YtjhfjkacfnccdabDoor.Back
