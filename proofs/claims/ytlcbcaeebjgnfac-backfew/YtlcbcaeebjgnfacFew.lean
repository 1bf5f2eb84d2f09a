/-
  The walk of the Go function BackFew: it returns true at any numbers. It changes nothing that was there.
-/
import Derived.Test.YtlcbcaeebjgnfacBackG
namespace Go.Proofs.Ytlcbcaeebjgnfac.Few
open Go.ChangeShapes Go.WideShapes Go.ChangeAt Go.RowKit Go.Sort Go.Lib Go.Proofs.Ytlcbcaeebjgnfac.BM Go.Proofs.Ytlcbcaeebjgnfac.Mem Go.Proofs.Ytlcbcaeebjgnfac.Back
set_option linter.unusedVariables false

theorem pfault_row (f : Int) (k : Nat) (h0 : 0 ≤ f) (hk : k ≤ 200) (h1 : f + (k : Int) ≤ 65536) : pfault (row f k) = 0 := by
  unfold pfault
  rw [if_neg (by rw [row_len]; omega), if_neg]
  rw [Bool.not_eq_true, List.any_eq_false]
  intro x hx
  have := mem_row.1 hx
  simp [inR]
  omega

set_option maxHeartbeats 2000000 in
set_option maxRecDepth 100000 in
theorem walk (a : Option Addr) (n cap : Nat) (L : List Int) (f k : Int) (w : World) (h : IArg w a n L) (hn : a = none → n = 0 ∧ cap = 0) :
    Calls Try.prog 4 #[.slice a n cap, .int .i64 f, .int .i64 k] w fun e w' => e = .returned (.bool true) ∧ Below w.heap.size w w' := by
  have HPG := hidden (pairs_gen a n cap L w h hn)
  have HBK : Hid (pfault L = 0 → nfault (pr (prsOf L)) = 0 ∧ (prsOf L).length ≤ (numsOf (pr (prsOf L))).length ∧ (numsOf (pr (prsOf L))).length ≤ 17 * (prsOf L).length ∧ (prsOf L).length ≤ 200) := fun hz => by
    obtain ⟨h1, h2, h3, h4, h5, _⟩ := back_again hz
    have := (pfault_zero hz).1
    exact ⟨h1, by rw [h2]; exact h3, by rw [h2]; exact h4, by omega⟩
  generalize prsOf L = l1 at *
  generalize pfault L = f1 at *
  clear h hn
  go_enter Try.func4, Try.ntmps4
  go_wp2_with fail
  refine HPG.out.mono ?_
  rintro e w1 ⟨a1, m1, c1, rfl, hP1, hn1, _, hb1⟩
  have HP1 := hidden hP1
  have HB1 := hidden hb1
  have hm1 : m1 = l1.length := by have := hP1.2.1; rw [pr_len] at this; exact this.symm
  clear hP1 hb1 hn1 HPG
  subst hm1
  have ceq := cmp_eq f1
  have geq := grd_eq f1
  obtain ⟨z1, hz1⟩ : ∃ z, decide (f1 = 0) = z := ⟨_, rfl⟩
  rw [hz1] at ceq
  have HZ1 := hidden hz1
  clear hz1
  go_upto_if 23 with fail
  go_cut [9, 10] from 24 (fun x y wx => Hid (Below w.heap.size w wx))
  case first =>
    cases z1 with
    | true =>
      obtain ⟨hz2, hle, h17, h200⟩ := HBK.out (of_decide_eq_true HZ1.out)
      have HNG := hidden (numbers_gen a1 l1.length c1 (pr l1) w1 HP1.out)
      rw [hz2] at HNG
      generalize numsOf (pr l1) = L2 at *
      have hq1 : ¬ ((L2.length : Int) < (l1.length : Int)) := by omega
      have hq2 : ¬ (17 * (l1.length : Int) < (L2.length : Int)) := by omega
      clear hz2
      go_wp2_with fail
      refine HNG.out.mono ?_
      rintro e w2 ⟨a2, m2, c2, rfl, hI2, _, _, hb2⟩
      have hm2 : m2 = L2.length := hI2.2.1.symm
      subst hm2
      have HB2 := hidden (HB1.out.trans (hb2.mono HB1.out.size))
      clear hI2 hb2
      rw [errv_zero]
      go_wp2_with fail
      go_meet
      exact HB2
    | false =>
      go_wp2_with fail
      go_meet
      exact HB1
  case rest =>
  clear ceq geq HZ1 HBK HP1 HB1
  by_cases g1 : f < 0
  · go_wp2_with fail
    go_ret
    exact ⟨rfl, hcut.out⟩
  by_cases g2 : 65536 < f
  · go_wp2_with fail
    go_ret
    exact ⟨rfl, hcut.out⟩
  by_cases g3 : k < 0
  · go_wp2_with fail
    go_ret
    exact ⟨rfl, hcut.out⟩
  by_cases g4 : 200 < k
  · go_wp2_with fail
    go_ret
    exact ⟨rfl, hcut.out⟩
  by_cases g5 : 65536 < f + k
  · go_wp2_with fail
    go_ret
    exact ⟨rfl, hcut.out⟩
  obtain ⟨m, rfl⟩ : ∃ m : Nat, k = (m : Int) := ⟨k.toNat, by omega⟩
  have g3' : ¬ ((m : Int) < 0) := by omega
  obtain ⟨i0, hii, hz0, hz1, hz2⟩ := info_parts info3
  have HN0 : Hid (NSt wc wc (row f 0) (.slice none 0 0)) := ⟨Below.refl _ _, World.ownsRow_nil _ _ _ _⟩
  go_wp2_with fail
  go_loopg [11, 12] m (fun g x y wr => ∃ (i : Nat) (v : Value), i + g = m ∧ x = v ∧ y = .int .i64 (i : Int) ∧ Hid (NSt wc wr (row f i) v))
  case atStart => exact ⟨0, _, by omega, rfl, rfl, HN0⟩
  case round =>
    obtain ⟨i, v, hig, rfl, rfl, HS⟩ := hrel
    by_cases hi : i < m
    · have hiz : (i : Int) < (m : Int) := by omega
      have hlen := row_len f i
      go_wp2_with (at_builtin; refine wpList_append_own _ rfl _ _ 22 rfl wc.heap.size 3 i0 _ 1 8 Try.underlying22 hii hz0 hz1 hz2 rfl (by decide) _ (row f i).length (ic (row f i)) rfl (HS.out.own.alloc _) ⟨wr.heap.size, 0, none⟩ 1 1 [.int .i64 (f + (i : Int))] rfl rfl ?cc ?one ?b1 ?b2 ?b3 ?next)
      case cc => exact lit1 _
      case one => simp [Value.oneCell']
      case b1 => unfold maxLen; omega
      case b2 => omega
      case b3 => have := HS.out.below.size; simp; omega
      case next =>
      intro v3 w' hown hgrow _
      have HSn : Hid (NSt wc w' (row f (i + 1)) v3) := by
        have hs := HS.out.below.size
        refine ⟨(HS.out.below.alloc hs _).grown hgrow (by simp; omega) (fun j hj => (HS.out.own.lt j hj).1), ?_⟩
        rw [row_succ, List.length_append, hlen]
        have e : ic (row f i ++ [f + (i : Int)]) = ic (row f i) ++ [.int .i64 (f + (i : Int))] := by simp [ic]
        rw [e]
        exact hown
      clear hown hgrow
      go_wp2_with fail
      go_roundg (m - (i + 1))
      case measure => omega
      case rel => exact ⟨i + 1, v3, by omega, rfl, by go_num, HSn⟩
    · have hiz : ¬ (i : Int) < (m : Int) := by omega
      have ei : i = m := by omega
      subst ei
      have HB2 := hidden (hcut.out.trans (HS.out.below.mono hcut.out.size))
      have ho := HS.out.own
      rw [row_len] at ho
      obtain ⟨aR, cR, rfl, hR, hnR, _, _⟩ := own_ints ho (by omega)
      have hz := pfault_row f i (by omega) (by omega) (by omega)
      have HPG := hidden (pairs_gen aR i cR (row f i) wr hR hnR)
      obtain ⟨b1, b2, _⟩ := back_again hz
      rw [norm_self (row_rises f i)] at b2
      have hpl := (pairs_row f i).1
      have e : prsOf (row f i) = pairs (row f i) := by rw [prsOf, if_pos hz, norm_self (row_rises f i)]
      rw [← e] at hpl
      rw [hz] at HPG
      have HR := hidden hR
      have HB12 := hidden (And.intro b1 b2)
      clear ho hR hnR hz e b1 b2 HS HN0
      generalize prsOf (row f i) = l2 at *
      generalize row f i = R at *
      have hdiv : ((i : Int) + 16).tdiv 17 = (l2.length : Int) := by rw [hpl]; exact (by rw [show (i : Int) + 16 = ((i + 16 : Nat) : Int) by omega]; rfl)
      have HWL : Hid (wrap64 (l2.length : Int) = (l2.length : Int)) := hidden (by rw [hpl]; unfold wrap64; omega)
      clear hpl
      go_wp2_with fail
      refine HPG.out.mono ?_
      rintro e w3 ⟨a3, m3, c3, rfl, hP3, _, _, hb3⟩
      have hm3 : m3 = l2.length := by have := hP3.2.1; rw [pr_len] at this; exact this.symm
      subst hm3
      have HB3 := hidden (HB2.out.trans (hb3.mono HB2.out.size))
      have HR3 := hidden (HR.out.below hb3)
      have HNG := hidden (numbers_gen a3 l2.length c3 (pr l2) w3 hP3)
      rw [HB12.out.1, HB12.out.2] at HNG
      clear hP3 hb3 HPG HB12
      rw [errv_zero]
      go_wp2_with fail
      refine HNG.out.mono ?_
      rintro e w4 ⟨a4, m4, c4, rfl, hI4, _, _, hb4⟩
      have hm4 : m4 = i := by rw [← hI4.2.1, HR3.out.2.1]
      subst hm4
      have HB4 := hidden (HB3.out.trans (hb4.mono HB3.out.size))
      have HR4 := hidden (HR3.out.below hb4)
      have HI4 := hidden hI4
      clear hI4 hb4 HNG
      rw [errv_zero]
      go_wp2_with fail
      refine (ints_same a4 aR _ c4 cR R w4 HI4.out HR4.out).mono ?_
      rintro e w5 ⟨rfl, hb5⟩
      have HB5 := hidden (HB4.out.trans (hb5.mono HB4.out.size))
      clear hb5
      have hwl := HWL.out
      go_wp2_with fail
      go_ret
      exact ⟨by simp, HB5.out⟩
end Go.Proofs.Ytlcbcaeebjgnfac.Few
