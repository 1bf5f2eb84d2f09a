/-
  What Row of package audit returns. It changes nothing that was there.
-/
import Derived.Test.YtpiamlgmadnepaaGreatAuditB
namespace Go.Proofs.YtpiamlgmadnepaaGreat.Audit
open Go.ChangeShapes Go.WideShapes Go.ChangeAt Go.RowKit Go.Proofs.YtpiamlgmadnepaaGreat.PM Go.Proofs.YtpiamlgmadnepaaGreat.Mem Go.Proofs.YtpiamlgmadnepaaGreat.Pack Go.Proofs.YtpiamlgmadnepaaGreat.AU
set_option linter.unusedVariables false

theorem and_seq (n : Int) : bits .and .i64 n 65535 = n % 65536 := by
  have h : (BitVec.ofInt 64 65535).toNat = 2 ^ 16 - 1 := by decide
  have key : (BitVec.ofInt 64 n &&& BitVec.ofInt 64 65535).toNat = (n % ((2 ^ 64 : Nat) : Int)).toNat % 2 ^ 16 := by
    rw [BitVec.toNat_and, BitVec.toNat_ofInt, h, Nat.and_two_pow_sub_one_eq_mod]
  show IntKind.i64.wrap ((BitVec.ofInt 64 n &&& BitVec.ofInt 64 65535).toNat : Nat) = n % 65536
  rw [key, IntKind.wrap_i64]
  omega
theorem pf_bd {p : Pk} (h : pf p = 0) : 0 ≤ p.s ∧ p.s ≤ 65535 := by
  obtain ⟨s, _, _, _, hs, _, _, _, h1, _⟩ := fault_zero h
  omega
set_option maxHeartbeats 4000000 in
set_option maxRecDepth 100000 in
theorem row_calls (a : Option Addr) (n cap : Nat) (X : List Pk) (K : Nat) (w : World) (hX : PArg w a n X) (hK : RStop X K) :
    Calls Tryz.prog 18 #[.slice a n cap] w fun e w' => e = .returned (.tuple #[.int .i64 (rat X K : Int), errv (rowf X K)]) ∧ Below w.heap.size w w' := by
  have hl := hX.1
  have hn2 := hX.2.1
  have HX := hidden hX
  by_cases h1 : 1000 < n
  · have e1 : rowf X K = 4 := by unfold rowf; rw [if_pos (by omega)]
    have e2 : rat X K = 0 := by unfold rat; rw [if_pos (by omega)]
    rw [e1, e2, errv_pos (by omega)]
    have d1 : decide (1000 < (n : Int)) = true := by simp; omega
    clear hX hK e1 e2
    go_enter Tryz.func18, Tryz.ntmps18
    go_wp2_with fail
    go_ret2
    exact ⟨rfl, Below.refl _ _⟩
  have d1 : decide (1000 < (n : Int)) = false := by simp; omega
  have HF : Hid (K < n → rowf X K = rfa X K ∧ rat X K = K) := fun h => by unfold rowf rat; rw [if_neg (by omega), if_pos (by omega), if_neg (by omega), if_pos (by omega)]; exact ⟨rfl, rfl⟩
  have HF0 : Hid (¬ K < n → rowf X K = 0 ∧ rat X K = 0) := fun h => by unfold rowf rat; rw [if_neg (by omega), if_neg (by omega), if_neg (by omega), if_neg (by omega)]; exact ⟨rfl, rfl⟩
  generalize rowf X K = f at *
  generalize rat X K = pa at *
  have HK := hidden hK
  clear hX hK
  go_enter Tryz.func18, Tryz.ntmps18
  go_wp2_with fail
  go_loopg [13] n (fun g x wr => ∃ i : Nat, i + g = n ∧ i ≤ K ∧ x = .int .i64 (i : Int) ∧ Hid (Below w.heap.size w wr))
  case atStart => exact ⟨0, by omega, by omega, rfl, Below.refl _ _⟩
  case round =>
    obtain ⟨i, hig, hiK, rfl, HW⟩ := hrel
    by_cases hi : i < n
    · have hiz : (i : Int) < (n : Int) := by omega
      obtain ⟨b, o, rfl, hcs⟩ := (HX.out.below HW.out).at (by omega)
      obtain ⟨⟨c0, c1, c2, c3, c4, c5⟩, hok⟩ := hcs i hi
      have hr : rfa X i = if pf (X.getD i noPk) ≠ 0 then pf (X.getD i noPk) else if 0 < i ∧ (X.getD i noPk).s ≠ ((X.getD (i - 1) noPk).s + 1) % 65536 then 3 else 0 := rfl
      have HPr : Hid (0 < i → 0 ≤ (X.getD (i - 1) noPk).s ∧ (X.getD (i - 1) noPk).s ≤ 65535) := fun h => pf_bd (rfa_pf (HK.out.hn (i - 1) (by omega)))
      have HCs := hidden hcs
      obtain ⟨p, hp⟩ : ∃ p, X.getD i noPk = p := ⟨_, rfl⟩
      rw [hp] at c0 c1 c2 c3 c4 c5 hok hr
      clear hp hcs hok
      have HC := hidden (fun W => Pack.check_calls p.s p.t p.l p.q p.st p.a p.m p.c W)
      have HB1 : Hid (∀ O, Below w.heap.size w (wr.alloc O)) := fun O => below_alloc HW.out O
      have HBx : Hid (Box (wr.alloc (.cells #[.int .i64 p.s, .int .i64 p.t, .int .i64 p.l, .int .i64 p.q, .bool p.st, .slice p.a p.m p.c] 38)) wr.heap.size p.s p.t p.l p.q p.st (.slice p.a p.m p.c)) := Box.new wr _ _ _ _ _ _
      have HCa : Hid (∀ O j, j < n → PkAt (wr.alloc O) b (o + j * 6) (X.getD j noPk)) := fun O j hj => (HCs.out j hj).1.below ((Below.refl _ _).alloc (Nat.le_refl _) _)
      have hpf : fault p.s p.t p.l p.q p.m = pf p := rfl
      rw [hpf] at HC
      obtain ⟨s, t, l, q, st, aa, mm, cc, LL⟩ := p
      simp only at c0 c1 c2 c3 c4 c5 HC HBx hr
      by_cases h0 : pf ⟨s, t, l, q, st, aa, mm, cc, LL⟩ = 0
      · rw [h0, errv_zero] at HC
        rw [h0, if_neg (by simp)] at hr
        clear hpf h0
        go_wp2_with fail
        refine (HC.out _).mono ?_
        rintro e w1 ⟨rfl, hb⟩
        have HB2 : Hid (Below w.heap.size w w1) := (HB1.out _).trans (hb.mono (HB1.out (.cells #[.int .i64 s, .int .i64 t, .int .i64 l, .int .i64 q, .bool st, .slice aa mm cc] 38)).size)
        obtain ⟨x0, x1, x2, x3, x4, x5⟩ := (HBx.out.below hb HBx.out.lt).cells
        have HCb : Hid (∀ j, j < n → PkAt w1 b (o + j * 6) (X.getD j noPk)) := fun j hj => (HCa.out _ j hj).below hb
        clear hb HC HB1 HBx HCa x1 x2 x3 x4 x5
        by_cases hi0 : 0 < i
        · have dz : decide ((0 : Int) < (i : Int)) = true := by simp; omega
          have dn : decide (0 < i) = true := by simp; omega
          obtain ⟨y0, _, _, _, _, _⟩ := HCb.out (i - 1) (by omega)
          obtain ⟨sp, hsp⟩ : ∃ sp, (X.getD (i - 1) noPk).s = sp := ⟨_, rfl⟩
          have hbd := HPr.out hi0
          rw [hsp] at y0 hr hbd
          have hix : (i : Int) - 1 = ((i - 1 : Nat) : Int) := by omega
          obtain ⟨k, hk⟩ : ∃ k, i - 1 = k := ⟨_, rfl⟩
          rw [hk] at y0 hix
          have hkn : k < n := by omega
          have hwr : IntKind.i64.wrap ((i : Int) - 1) = (k : Int) := by rw [IntKind.wrap_i64]; omega
          by_cases hs : s = (sp + 1) % 65536
          · have HR : Hid (rfa X i = 0) := by rw [hr, if_neg (by omega)]; rfl
            have ds : (s != bits .and .i64 (sp + 1) 65535) = false := by rw [and_seq]; simpa using hs
            have hiK' : i < K := by
              rcases Nat.lt_or_ge i K with h | h
              · exact h
              · have e : K = i := by omega
                have := HK.out.he (by omega)
                rw [e] at this
                exact absurd HR.out this
            clear hs hr hsp hk
            go_wp2_with fail
            go_quiet (fail)
            go_wp2_with fail
            go_roundg (n - (i + 1))
            case measure => omega
            case rel => exact ⟨i + 1, by omega, by omega, by go_num, below_drewN' HB2.out _⟩
          · have HR : Hid (rfa X i = 3) := by rw [hr, if_pos ⟨hi0, hs⟩]; rfl
            have ds : (s != bits .and .i64 (sp + 1) 65535) = true := by rw [and_seq]; simpa using hs
            have HKi : Hid (K = i) := by
              unfold Hid
              rcases Nat.lt_or_ge i K with h | h
              · have := HK.out.hn i h
                rw [HR.out] at this
                omega
              · omega
            have HE : Hid (f = 3 ∧ pa = i) := by
              have h1 := HF.out (by have := HKi.out; omega)
              rw [HKi.out, HR.out] at h1
              exact h1
            clear hs hr hsp hk
            go_wp2_with fail
            go_quiet (fail)
            go_wp2_with fail
            go_ret2
            exact ⟨by rw [HE.out.1, HE.out.2, errv_pos (by omega)]; rfl, below_drewN' HB2.out _⟩
        · have dz : decide ((0 : Int) < (i : Int)) = false := by simp; omega
          have dn : decide (0 < i) = false := by simp; omega
          have HR : Hid (rfa X i = 0) := by rw [hr, if_neg (by omega)]; rfl
          have hiK' : i < K := by
            rcases Nat.lt_or_ge i K with h | h
            · exact h
            · have e : K = i := by omega
              have := HK.out.he (by omega)
              rw [e] at this
              exact absurd HR.out this
          have hi00 : i = 0 := by omega
          clear hr
          go_wp2_with fail
          go_quiet (fail)
          go_wp2_with fail
          go_roundg (n - (i + 1))
          case measure => omega
          case rel => exact ⟨i + 1, by omega, by omega, by go_num, below_drewN' HB2.out _⟩
      · have HR : Hid (rfa X i = pf ⟨s, t, l, q, st, aa, mm, cc, LL⟩) := by rw [hr, if_pos h0]; rfl
        have HKi : Hid (K = i) := by
          unfold Hid
          rcases Nat.lt_or_ge i K with h | h
          · have := HK.out.hn i h
            rw [HR.out] at this
            exact absurd this h0
          · omega
        have HE : Hid (f = pf ⟨s, t, l, q, st, aa, mm, cc, LL⟩ ∧ pa = i) := by
          have h1 := HF.out (by have := HKi.out; omega)
          rw [HKi.out, HR.out] at h1
          exact h1
        generalize pf ⟨s, t, l, q, st, aa, mm, cc, LL⟩ = fp at *
        have hcmp := cmp_ne fp
        have hgrd := grd_ne fp
        rw [decide_eq_false h0] at hcmp
        clear hr hpf h0
        go_wp2_with fail
        refine (HC.out _).mono ?_
        rintro e w1 ⟨rfl, hb⟩
        have HB2 : Hid (Below w.heap.size w w1) := (HB1.out _).trans (hb.mono (HB1.out (.cells #[.int .i64 s, .int .i64 t, .int .i64 l, .int .i64 q, .bool st, .slice aa mm cc] 38)).size)
        clear hb HC HB1 HBx HCa
        go_wp2_with fail
        go_ret2
        exact ⟨by rw [HE.out.1, HE.out.2]; rfl, HB2.out⟩
    · have hiz : ¬ (i : Int) < (n : Int) := by omega
      have HKi : Hid (K = i) := by unfold Hid; have := HK.out.hk; omega
      have HE := hidden (HF0.out (by have := HKi.out; omega))
      go_wp2_with fail
      go_ret2
      exact ⟨by rw [HE.out.1, HE.out.2]; rfl, HW.out⟩
/-- which holes are told -/
def hk (S G : List Pk) (K : Nat) : List Int := if cfault S G K = 0 then hls S G (K - 1) else []
end Go.Proofs.YtpiamlgmadnepaaGreat.Audit

