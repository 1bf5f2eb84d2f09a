/-
  What take and Check of package audit return. They change nothing that was there.
-/
import Derived.Test.YtpiamlgmadnepaaGreatAuditI
namespace Go.Proofs.YtpiamlgmadnepaaGreat.Audit
open Go.ChangeShapes Go.WideShapes Go.ChangeAt Go.RowKit Go.Proofs.YtpiamlgmadnepaaGreat.PM Go.Proofs.YtpiamlgmadnepaaGreat.Mem Go.Proofs.YtpiamlgmadnepaaGreat.Pack Go.Proofs.YtpiamlgmadnepaaGreat.AU
set_option linter.unusedVariables false

theorem lit1 {w : World} {T : TypeId} (c0 : Value) : ∀ j u, [c0][j]? = some u → (w.alloc (.cells #[c0] T)).cell? ((⟨w.heap.size, 0, none⟩ : Addr).add j) = some u := by
  intro j u hu
  rw [Addr.add_lit, World.cell?_alloc_mark, Nat.zero_add, ← hu]
  exact List.getElem?_toArray

/-- how many places are told -/
def kk (S G : List Pk) (K : Nat) : Nat := if 1000 < S.length ∨ 1000 < G.length then 0 else K
/-- under way in take: numbers that were made since w -/
structure TSt (w wr : World) (K : List Int) (v : Value) : Prop where
  below : Below w.heap.size w wr
  own : wr.ownsRow w.heap.size 3 1 v K.length (ic K)
theorem TSt.go {w wr wr' : World} {K : List Int} {v : Value} (h : TSt w wr K v) (hb : Below wr.heap.size wr wr') : TSt w wr' K v := ⟨h.below.trans (hb.mono h.below.size), own_below h.own hb⟩
set_option maxHeartbeats 4000000 in
set_option maxRecDepth 100000 in
theorem take_calls (a : Option Addr) (n cap : Nat) (S : List Pk) (a2 : Option Addr) (m cap2 : Nat) (G : List Pk) (K : Nat) (w : World) (hS : PArg w a n S) (hc : n ≤ cap) (hN : a = none → cap = 0) (hG : PArg w a2 m G) (hK : Stop S G K) :
    Calls Tryz.prog 58 #[.slice a n cap, .slice a2 m cap2] w fun e w' => ∃ v, e = .returned (.tuple #[v, errv (cfault S G K)]) ∧ w'.ownsRow w.heap.size 3 1 v (pls S G (kk S G K)).length (ic (pls S G (kk S G K))) ∧ Below w.heap.size w w' := by
  have hl := hS.1
  have hm := hG.1
  have hn2 := hS.2.1
  have hm2 := hG.2.1
  have HS := hidden hS
  have HG := hidden hG
  by_cases h1 : 1000 < n
  · have e1 : cfault S G K = 4 := cfault_full (by omega)
    have e2 : kk S G K = 0 := by unfold kk; rw [if_pos (by omega)]
    rw [e1, e2, errv_pos (by omega)]
    have d1 : decide (1000 < (n : Int)) = true := by simp; omega
    clear hS hG hK e1 e2
    go_enter Tryz.func58, Tryz.ntmps58
    go_wp2_with fail
    go_ret2
    exact ⟨_, rfl, World.ownsRow_nil _ _ _ _, Below.refl _ _⟩
  have d1 : decide (1000 < (n : Int)) = false := by simp; omega
  by_cases h2 : 1000 < m
  · have e1 : cfault S G K = 4 := cfault_full (by omega)
    have e2 : kk S G K = 0 := by unfold kk; rw [if_pos (by omega)]
    rw [e1, e2, errv_pos (by omega)]
    have d2 : decide (1000 < (m : Int)) = true := by simp; omega
    clear hS hG hK e1 e2
    go_enter Tryz.func58, Tryz.ntmps58
    go_wp2_with fail
    go_ret2
    exact ⟨_, rfl, World.ownsRow_nil _ _ _ _, Below.refl _ _⟩
  have d2 : decide (1000 < (m : Int)) = false := by simp; omega
  have e2 : kk S G K = K := by unfold kk; rw [if_neg (by omega)]
  rw [e2]
  have HK := hidden hK
  have HF4 : Hid (K < m → cfault S G K = 5) := fun h => cfault_none (by omega) (by omega)
  have HF0 : Hid (¬ K < m → cfault S G K = 0) := fun h => cfault_ok (by omega) (by omega)
  generalize cfault S G K = f at *
  obtain ⟨i0, hii, hz0, hz1, hz2⟩ := info_parts info3
  have HT0 : Hid (TSt w w (pls S G 0) (.slice none 0 0)) := ⟨Below.refl _ _, World.ownsRow_nil _ _ _ _⟩
  clear hS hG hK e2
  go_enter Tryz.func58, Tryz.ntmps58
  go_wp2_with fail
  go_loopg [4, 6, 21] m (fun g u y x wr => ∃ (i nx : Nat) (v : Value), i + g = m ∧ i ≤ K ∧ v = u ∧ nx ≤ n ∧ y = .int .i64 (nx : Int) ∧ x = .int .i64 (i : Int) ∧ Hid (nxt S G i = nx) ∧ Hid (TSt w wr (pls S G i) v))
  case atStart => exact ⟨0, 0, _, by omega, by omega, rfl, by omega, rfl, rfl, rfl, HT0⟩
  case round =>
    obtain ⟨i, nx, v, hig, hiK, rfl, hnx, rfl, rfl, HX, HT⟩ := hrel
    by_cases hi : i < m
    · have hiz : (i : Int) < (m : Int) := by omega
      obtain ⟨b, o, rfl, hcs⟩ := (HG.out.below HT.out.below).at (by omega)
      obtain ⟨⟨c0, c1, c2, c3, c4, c5⟩, hok⟩ := hcs i hi
      have hst := nxt_succ S G i
      obtain ⟨p, hp⟩ : ∃ p, G.getD i noPk = p := ⟨_, rfl⟩
      rw [hp] at c0 c1 c2 c3 c4 c5 hok hst
      have HP := hidden hp
      clear hp hcs
      obtain ⟨a', cap', hcut, hS'⟩ := cut_low w a n cap nx S HS.out hnx hc hN
      have hfl := fi_le (like p) (S.drop nx)
      rw [List.length_drop, hl] at hfl
      have HSt : Hid (nxt S G (i + 1) = nx + fi (like p) (S.drop nx) + 1) := by unfold Hid; rw [hst, HX.out]
      have HB1 : Hid (∀ O, Below w.heap.size w (wr.alloc O)) := fun O => below_alloc HT.out.below O
      have HBx : Hid (PBox (wr.alloc (.cells #[.int .i64 p.s, .int .i64 p.t, .int .i64 p.l, .int .i64 p.q, .bool p.st, .slice p.a p.m p.c] 38)) wr.heap.size p) := ⟨Box.new wr _ _ _ _ _ _, hok.below ((Below.refl _ _).alloc (Nat.le_refl _) _)⟩
      have HC := hidden (idx_calls a' (n - nx) cap' (S.drop nx) wr.heap.size p (wr.alloc (.cells #[.int .i64 p.s, .int .i64 p.t, .int .i64 p.l, .int .i64 p.q, .bool p.st, .slice p.a p.m p.c] 38)) (hS'.below (HB1.out _)) HBx.out)
      obtain ⟨q, hq⟩ : ∃ q, fi (like p) (S.drop nx) = q := ⟨_, rfl⟩
      have HQ : Hid (pl S G i = nx + q) := by unfold Hid; rw [pl_eq, HX.out, HP.out, hq]
      rw [hq] at HC hfl HSt
      clear hq hst hok hS' HBx
      obtain ⟨s, t, l, qq, st, aa, mm, cc, LL⟩ := p
      simp only at c0 c1 c2 c3 c4 c5 HC
      by_cases hF : q < n - nx
      · rw [if_pos hF] at HC
        have hKi : i < K := by
          rcases Nat.lt_or_ge i K with h | h
          · exact h
          · have e : K = i := by omega
            have := HK.out.he (by omega)
            rw [e, HSt.out] at this
            omega
        have hlen := pls_len S G i
        go_wp2_with fail
        refine HC.out.mono ?_
        rintro r w1 ⟨rfl, hw1⟩
        have HT1 : Hid (TSt w w1 (pls S G i) v) := (HT.out.go ((Below.refl _ _).alloc (Nat.le_refl _) _)).go hw1
        clear hw1 HT HC
        go_wp2_with (at_builtin; refine wpList_append_own _ rfl _ _ 35 rfl w.heap.size 3 i0 _ 1 8 Tryz.underlying35 hii hz0 hz1 hz2 rfl (by decide) _ (pls S G i).length (ic (pls S G i)) rfl (HT1.out.own.alloc _) ⟨w1.heap.size, 0, none⟩ 1 1 [.int .i64 ((nx : Int) + (q : Int))] rfl rfl ?cc ?one ?b1 ?b2 ?b3 ?next)
        case cc => exact lit1 _
        case one => simp [Value.oneCell']
        case b1 => unfold maxLen; omega
        case b2 => omega
        case b3 => have := HT1.out.below.size; simp; omega
        case next =>
        intro v3 w' hown hgrow _
        have HTn : Hid (TSt w w' (pls S G (i + 1)) v3) := by
          have hs := HT1.out.below.size
          refine ⟨(HT1.out.below.alloc hs _).grown hgrow (by simp; omega) (fun j hj => (HT1.out.own.lt j hj).1), ?_⟩
          rw [pls_succ, List.length_append, HQ.out]
          have e : ic (pls S G i ++ [((nx + q : Nat) : Int)]) = ic (pls S G i) ++ [.int .i64 ((nx : Int) + (q : Int))] := by simp [ic]
          rw [e, List.length_singleton, hlen]
          exact hown
        clear hown hgrow
        go_wp2_with fail
        go_roundg (m - (i + 1))
        case measure => omega
        case rel => exact ⟨i + 1, nx + q + 1, v3, by omega, by omega, rfl, by omega, by go_num, by go_num, HSt, HTn⟩
      · rw [if_neg hF] at HC
        have HKi : Hid (K = i) := by
          unfold Hid
          rcases Nat.lt_or_ge i K with h | h
          · have := HK.out.lt h
            rw [HSt.out] at this
            omega
          · omega
        have HF : Hid (f = 5) := HF4.out (by have := HKi.out; omega)
        go_wp2_with fail
        refine HC.out.mono ?_
        rintro r w1 ⟨rfl, hw1⟩
        have HT1 : Hid (TSt w w1 (pls S G i) v) := (HT.out.go ((Below.refl _ _).alloc (Nat.le_refl _) _)).go hw1
        clear hw1 HT HC
        go_wp2_with fail
        go_ret2
        exact ⟨v, by rw [HF.out, errv_pos (by omega)]; rfl, by rw [HKi.out]; exact HT1.out.own, HT1.out.below⟩
    · have hiz : ¬ (i : Int) < (m : Int) := by omega
      have HKi : Hid (K = i) := by unfold Hid; have := HK.out.hk; omega
      have HF : Hid (f = 0) := HF0.out (by have := HKi.out; omega)
      go_wp2_with fail
      go_ret2
      exact ⟨v, by rw [HF.out, errv_zero]; rfl, by rw [HKi.out]; exact HT.out.own, HT.out.below⟩

set_option maxHeartbeats 2000000 in
set_option maxRecDepth 100000 in
theorem check_calls (a : Option Addr) (n cap : Nat) (S : List Pk) (a2 : Option Addr) (m cap2 : Nat) (G : List Pk) (K : Nat) (w : World) (hS : PArg w a n S) (hc : n ≤ cap) (hN : a = none → cap = 0) (hG : PArg w a2 m G) (hK : Stop S G K) :
    Calls Tryz.prog 17 #[.slice a n cap, .slice a2 m cap2] w fun e w' => e = .returned (.tuple #[.int .i64 (cat S G K : Int), errv (cfault S G K)]) ∧ Below w.heap.size w w' := by
  have HC := hidden (take_calls a n cap S a2 m cap2 G K w hS hc hN hG hK)
  have hkk : cfault S G K ≠ 0 → kk S G K = cat S G K := by
    intro h
    unfold kk cat
    unfold cfault at h ⊢
    split
    · simp
    · rename_i h1
      rw [if_neg h1] at h
      split
      · simp
      · rename_i h2; rw [if_neg h2] at h; omega
  have hcz : cfault S G K = 0 → cat S G K = 0 := by intro h; unfold cat; rw [if_neg (by omega)]
  have hKl : kk S G K ≤ 9223372036854775807 := by have := hK.hk; have := hG.1; have := hG.2.1; unfold kk; split <;> omega
  have hlen := pls_len S G (kk S G K)
  generalize hL : pls S G (kk S G K) = L at *
  generalize cat S G K = ct at *
  generalize kk S G K = k at *
  have HCZ := hidden hcz
  have HKK := hidden hkk
  clear hS hN hG hK hc hcz hkk hL
  obtain ⟨f, hf⟩ : ∃ f, cfault S G K = f := ⟨_, rfl⟩
  rw [hf] at HC HCZ HKK ⊢
  clear hf
  have hcmp := cmp_ne f
  have hgrd := grd_ne f
  go_enter Tryz.func17, Tryz.ntmps17
  go_wp2_with fail
  refine HC.out.mono ?_
  rintro e w1 ⟨v, rfl, hown, hb⟩
  obtain ⟨av, cv, rfl, _, _, _, _⟩ := own_ints hown (by omega)
  have HB := hidden hb
  rw [hlen] at hown ⊢
  clear hown hb HC
  by_cases h0 : f = 0
  · rw [decide_eq_true h0] at hcmp
    have HZ := hidden (HCZ.out h0)
    have H0 := hidden h0
    clear h0
    go_wp2_with fail
    go_ret2
    exact ⟨by rw [HZ.out, H0.out]; rfl, HB.out⟩
  · rw [decide_eq_false h0] at hcmp
    have HZ := hidden (HKK.out h0)
    clear h0
    go_wp2_with fail
    go_ret2
    exact ⟨by rw [← HZ.out]; rfl, HB.out⟩
end Go.Proofs.YtpiamlgmadnepaaGreat.Audit

