/-
  What Row of package audit returns. It changes nothing that was there.
-/
import Derived.Test.YtjnkgbdpacdgpaaDoorAuditB
namespace Go.Proofs.YtjnkgbdpacdgpaaDoor.Audit
open Go.ChangeShapes Go.WideShapes Go.ChangeAt Go.RowKit Go.Proofs.YtjnkgbdpacdgpaaDoor.PM Go.Proofs.YtjnkgbdpacdgpaaDoor.Mem Go.Proofs.YtjnkgbdpacdgpaaDoor.Pack Go.Proofs.YtjnkgbdpacdgpaaDoor.AU
set_option linter.unusedVariables false

theorem and_seq (n : Int) : bits .and .i64 n 65535 = n % 65536 := by
  have h : (BitVec.ofInt 64 65535).toNat = 2 ^ 16 - 1 := by decide
  have key : (BitVec.ofInt 64 n &&& BitVec.ofInt 64 65535).toNat = (n % ((2 ^ 64 : Nat) : Int)).toNat % 2 ^ 16 := by
    rw [BitVec.toNat_and, BitVec.toNat_ofInt, h, Nat.and_two_pow_sub_one_eq_mod]
  show IntKind.i64.wrap ((BitVec.ofInt 64 n &&& BitVec.ofInt 64 65535).toNat : Nat) = n % 65536
  rw [key, IntKind.wrap_i64]
  omega
theorem pf_bd {p : Pk} (h : pf p = 0) : 0 ≤ p.s ∧ p.s ≤ 65535 := by
  obtain ⟨s, _, _, _, hs, _, _, _, h1, _⟩ := fault_zero h
  omega
set_option maxHeartbeats 4000000 in
set_option maxRecDepth 100000 in
theorem row_calls (a : Option Addr) (n cap : Nat) (X : List Pk) (K : Nat) (w : World) (hX : PArg w a n X) (hK : RStop X K) :
    Calls Tryd.prog 7 #[.slice a n cap] w fun e w' => e = .returned (.tuple #[.int .i64 (rat X K : Int), errv (rowf X K)]) ∧ Below w.heap.size w w' := by
  have hl := hX.1
  have hn2 := hX.2.1
  have HX := hidden hX
  by_cases h1 : 1000 < n
  · have e1 : rowf X K = 4 := by unfold rowf; rw [if_pos (by omega)]
    have e2 : rat X K = 0 := by unfold rat; rw [if_pos (by omega)]
    rw [e1, e2, errv_pos (by omega)]
    have d1 : decide (1000 < (n : Int)) = true := by simp; omega
    clear hX hK e1 e2
    go_enter Tryd.func7, Tryd.ntmps7
    go_wp2_with fail
    go_ret2
    exact ⟨rfl, Below.refl _ _⟩
  have d1 : decide (1000 < (n : Int)) = false := by simp; omega
  have HF : Hid (K < n → rowf X K = rfa X K ∧ rat X K = K) := fun h => by unfold rowf rat; rw [if_neg (by omega), if_pos (by omega), if_neg (by omega), if_pos (by omega)]; exact ⟨rfl, rfl⟩
  have HF0 : Hid (¬ K < n → rowf X K = 0 ∧ rat X K = 0) := fun h => by unfold rowf rat; rw [if_neg (by omega), if_neg (by omega), if_neg (by omega), if_neg (by omega)]; exact ⟨rfl, rfl⟩
  generalize rowf X K = f at *
  generalize rat X K = pa at *
  have HK := hidden hK
  clear hX hK
  go_enter Tryd.func7, Tryd.ntmps7
  go_wp2_with fail
  go_loopg [13] n (fun g x wr => ∃ i : Nat, i + g = n ∧ i ≤ K ∧ x = .int .i64 (i : Int) ∧ Hid (Below w.heap.size w wr))
  case atStart => exact ⟨0, by omega, by omega, rfl, Below.refl _ _⟩
  case round =>
    obtain ⟨i, hig, hiK, rfl, HW⟩ := hrel
    by_cases hi : i < n
    · have hiz : (i : Int) < (n : Int) := by omega
      obtain ⟨b, o, rfl, hcs⟩ := (HX.out.below HW.out).at (by omega)
      obtain ⟨⟨c0, c1, c2, c3, c4, c5⟩, hok⟩ := hcs i hi
      have hr : rfa X i = if pf (X.getD i noPk) ≠ 0 then pf (X.getD i noPk) else if 0 < i ∧ (X.getD i noPk).s ≠ ((X.getD (i - 1) noPk).s + 1) % 65536 then 3 else 0 := rfl
      have HPr : Hid (0 < i → 0 ≤ (X.getD (i - 1) noPk).s ∧ (X.getD (i - 1) noPk).s ≤ 65535) := fun h => pf_bd (rfa_pf (HK.out.hn (i - 1) (by omega)))
      have HCs := hidden hcs
      obtain ⟨p, hp⟩ : ∃ p, X.getD i noPk = p := ⟨_, rfl⟩
      rw [hp] at c0 c1 c2 c3 c4 c5 hok hr
      clear hp hcs hok
      have HC := hidden (fun W => Pack.check_calls p.s p.t p.l p.q p.st p.a p.m p.c W)
      have HB1 : Hid (∀ O, Below w.heap.size w (wr.alloc O)) := fun O => below_alloc HW.out O
      have HBx : Hid (Box (wr.alloc (.cells #[.int .i64 p.s, .int .i64 p.t, .int .i64 p.l, .int .i64 p.q, .bool p.st, .slice p.a p.m p.c] 27)) wr.heap.size p.s p.t p.l p.q p.st (.slice p.a p.m p.c)) := Box.new wr _ _ _ _ _ _
      have HCa : Hid (∀ O j, j < n → PkAt (wr.alloc O) b (o + j * 6) (X.getD j noPk)) := fun O j hj => (HCs.out j hj).1.below ((Below.refl _ _).alloc (Nat.le_refl _) _)
      have hpf : fault p.s p.t p.l p.q p.m = pf p := rfl
      rw [hpf] at HC
      obtain ⟨s, t, l, q, st, aa, mm, cc, LL⟩ := p
      simp only at c0 c1 c2 c3 c4 c5 HC HBx hr
      by_cases h0 : pf ⟨s, t, l, q, st, aa, mm, cc, LL⟩ = 0
      · rw [h0, errv_zero] at HC
        rw [h0, if_neg (by simp)] at hr
        clear hpf h0
        go_wp2_with fail
        refine (HC.out _).mono ?_
        rintro e w1 ⟨rfl, hb⟩
        have HB2 : Hid (Below w.heap.size w w1) := (HB1.out _).trans (hb.mono (HB1.out (.cells #[.int .i64 s, .int .i64 t, .int .i64 l, .int .i64 q, .bool st, .slice aa mm cc] 27)).size)
        obtain ⟨x0, x1, x2, x3, x4, x5⟩ := (HBx.out.below hb HBx.out.lt).cells
        have HCb : Hid (∀ j, j < n → PkAt w1 b (o + j * 6) (X.getD j noPk)) := fun j hj => (HCa.out _ j hj).below hb
        clear hb HC HB1 HBx HCa x1 x2 x3 x4 x5
        by_cases hi0 : 0 < i
        · have dz : decide ((0 : Int) < (i : Int)) = true := by simp; omega
          have dn : decide (0 < i) = true := by simp; omega
          obtain ⟨y0, _, _, _, _, _⟩ := HCb.out (i - 1) (by omega)
          obtain ⟨sp, hsp⟩ : ∃ sp, (X.getD (i - 1) noPk).s = sp := ⟨_, rfl⟩
          have hbd := HPr.out hi0
          rw [hsp] at y0 hr hbd
          have hix : (i : Int) - 1 = ((i - 1 : Nat) : Int) := by omega
          obtain ⟨k, hk⟩ : ∃ k, i - 1 = k := ⟨_, rfl⟩
          rw [hk] at y0 hix
          have hkn : k < n := by omega
          have hwr : IntKind.i64.wrap ((i : Int) - 1) = (k : Int) := by rw [IntKind.wrap_i64]; omega
          by_cases hs : s = (sp + 1) % 65536
          · have HR : Hid (rfa X i = 0) := by rw [hr, if_neg (by omega)]; rfl
            have ds : (s != bits .and .i64 (sp + 1) 65535) = false := by rw [and_seq]; simpa using hs
            have hiK' : i < K := by
              rcases Nat.lt_or_ge i K with h | h
              · exact h
              · have e : K = i := by omega
                have := HK.out.he (by omega)
                rw [e] at this
                exact absurd HR.out this
            clear hs hr hsp hk
            go_wp2_with fail
            go_quiet (fail)
            go_wp2_with fail
            go_roundg (n - (i + 1))
            case measure => omega
            case rel => exact ⟨i + 1, by omega, by omega, by go_num, below_drewN' HB2.out _⟩
          · have HR : Hid (rfa X i = 3) := by rw [hr, if_pos ⟨hi0, hs⟩]; rfl
            have ds : (s != bits .and .i64 (sp + 1) 65535) = true := by rw [and_seq]; simpa using hs
            have HKi : Hid (K = i) := by
              unfold Hid
              rcases Nat.lt_or_ge i K with h | h
              · have := HK.out.hn i h
                rw [HR.out] at this
                omega
              · omega
            have HE : Hid (f = 3 ∧ pa = i) := by
              have h1 := HF.out (by have := HKi.out; omega)
              rw [HKi.out, HR.out] at h1
              exact h1
            clear hs hr hsp hk
            go_wp2_with fail
            go_quiet (fail)
            go_wp2_with fail
            go_ret2
            exact ⟨by rw [HE.out.1, HE.out.2, errv_pos (by omega)]; rfl, below_drewN' HB2.out _⟩
        · have dz : decide ((0 : Int) < (i : Int)) = false := by simp; omega
          have dn : decide (0 < i) = false := by simp; omega
          have HR : Hid (rfa X i = 0) := by rw [hr, if_neg (by omega)]; rfl
          have hiK' : i < K := by
            rcases Nat.lt_or_ge i K with h | h
            · exact h
            · have e : K = i := by omega
              have := HK.out.he (by omega)
              rw [e] at this
              exact absurd HR.out this
          have hi00 : i = 0 := by omega
          clear hr
          go_wp2_with fail
          go_quiet (fail)
          go_wp2_with fail
          go_roundg (n - (i + 1))
          case measure => omega
          case rel => exact ⟨i + 1, by omega, by omega, by go_num, below_drewN' HB2.out _⟩
      · have HR : Hid (rfa X i = pf ⟨s, t, l, q, st, aa, mm, cc, LL⟩) := by rw [hr, if_pos h0]; rfl
        have HKi : Hid (K = i) := by
          unfold Hid
          rcases Nat.lt_or_ge i K with h | h
          · have := HK.out.hn i h
            rw [HR.out] at this
            exact absurd this h0
          · omega
        have HE : Hid (f = pf ⟨s, t, l, q, st, aa, mm, cc, LL⟩ ∧ pa = i) := by
          have h1 := HF.out (by have := HKi.out; omega)
          rw [HKi.out, HR.out] at h1
          exact h1
        generalize pf ⟨s, t, l, q, st, aa, mm, cc, LL⟩ = fp at *
        have hcmp := cmp_ne fp
        have hgrd := grd_ne fp
        rw [decide_eq_false h0] at hcmp
        clear hr hpf h0
        go_wp2_with fail
        refine (HC.out _).mono ?_
        rintro e w1 ⟨rfl, hb⟩
        have HB2 : Hid (Below w.heap.size w w1) := (HB1.out _).trans (hb.mono (HB1.out (.cells #[.int .i64 s, .int .i64 t, .int .i64 l, .int .i64 q, .bool st, .slice aa mm cc] 27)).size)
        clear hb HC HB1 HBx HCa
        go_wp2_with fail
        go_ret2
        exact ⟨by rw [HE.out.1, HE.out.2]; rfl, HB2.out⟩
    · have hiz : ¬ (i : Int) < (n : Int) := by omega
      have HKi : Hid (K = i) := by unfold Hid; have := HK.out.hk; omega
      have HE := hidden (HF0.out (by have := HKi.out; omega))
      go_wp2_with fail
      go_ret2
      exact ⟨by rw [HE.out.1, HE.out.2]; rfl, HW.out⟩
/-- which holes are told -/
def hk (S G : List Pk) (K : Nat) : List Int := if cfault S G K = 0 then hls S G (K - 1) else []
set_option maxHeartbeats 4000000 in
set_option maxRecDepth 100000 in
theorem holes_calls (a : Option Addr) (n cap : Nat) (S : List Pk) (a2 : Option Addr) (m cap2 : Nat) (G : List Pk) (K : Nat) (w : World) (hS : PArg w a n S) (hc : n ≤ cap) (hN : a = none → cap = 0) (hG : PArg w a2 m G) (hK : Stop S G K) :
    Calls Tryd.prog 11 #[.slice a n cap, .slice a2 m cap2] w fun e w' => ∃ v, e = .returned (.tuple #[v, errv (cfault S G K)]) ∧ w'.ownsRow w.heap.size 3 1 v (hk S G K).length (ic (hk S G K)) ∧ Below w.heap.size w w' := by
  have HC := hidden (take_calls a n cap S a2 m cap2 G K w hS hc hN hG hK)
  have hm := hG.1
  have hn := hS.1
  have hKm := hK.hk
  by_cases h0 : cfault S G K = 0
  · have hfull : ¬ (1000 < S.length ∨ 1000 < G.length) := fun h => by rw [cfault_full h] at h0; omega
    have e1 : kk S G K = K := by unfold kk; rw [if_neg hfull]
    have e2 : hk S G K = hls S G (K - 1) := by unfold hk; rw [if_pos h0]
    have HLe : Hid (∀ i, i < K → pl S G i < n) := fun i hi => by have := hK.lt hi; have := pl_nxt S G i; omega
    have HUp : Hid (∀ i, i + 1 < K → pl S G i < pl S G (i + 1)) := fun i hi => by have := pl_nxt S G i; have := pl_nxt S G (i + 1); have := nxt_lt S G (i + 1); omega
    rw [e1, h0, errv_zero] at HC
    rw [e2, h0, errv_zero]
    have hlen := pls_len S G K
    have hK1 : K ≤ 1000 := by omega
    have hn1 : n ≤ 1000 := by omega
    obtain ⟨i0, hii, hz0, hz1, hz2⟩ := info_parts info3
    clear e1 e2 h0 hfull hK hS hG hN
    go_enter Tryd.func11, Tryd.ntmps11
    go_wp2_with fail
    refine HC.out.mono ?_
    rintro e w1 ⟨v, rfl, hown, hb⟩
    rw [hlen] at hown
    obtain ⟨av, cv, rfl, hA, hnone, hcap, hfar⟩ := own_ints hown (by omega)
    have HA := hidden hA
    have HB := hidden hb
    have HO := hidden hown
    have HT0 : Hid (TSt w1 w1 (hls S G 0) (.slice none 0 0)) := ⟨Below.refl _ _, World.ownsRow_nil _ _ _ _⟩
    clear hA hb hown HC hfar hlen
    go_wp2_with fail
    go_loopg [8, 9] K (fun g u y wr => ∃ (i : Nat) (v : Value), i + g = K ∧ v = u ∧ y = .int .i64 ((i : Int) + 1) ∧ (i < K ∨ i = 0) ∧ Hid (TSt w1 wr (hls S G i) v))
    case atStart => exact ⟨0, _, by omega, rfl, rfl, by omega, HT0⟩
    case round =>
      obtain ⟨i, v, hig, rfl, rfl, hiK, HT⟩ := hrel
      by_cases hi : i + 1 < K
      · have hiz : (i : Int) + 1 < (K : Int) := by omega
        obtain ⟨b, o, rfl, hcs⟩ := (HA.out.below HT.out.below).at (by omega)
        have c1 := hcs (i + 1) hi
        have c0 := hcs i (by omega)
        rw [pls_get S G hi] at c1
        rw [pls_get S G (by omega)] at c0
        have hl0 := HLe.out i (by omega)
        have hl1 := HLe.out (i + 1) hi
        have hup := HUp.out i hi
        have HH : Hid (hl S G i = (pl S G (i + 1) : Int) - (pl S G i : Int) - 1) := rfl
        have hlen := hls_len S G i
        have hhs := hls_succ S G i
        obtain ⟨p1, hp1⟩ : ∃ p1, pl S G (i + 1) = p1 := ⟨_, rfl⟩
        obtain ⟨p0, hp0⟩ : ∃ p0, pl S G i = p0 := ⟨_, rfl⟩
        rw [hp1] at c1 hl1 hup HH
        rw [hp0] at c0 hl0 hup HH
        have Hp1 := hidden hp1
        have Hp0 := hidden hp0
        clear hp1 hp0
        obtain ⟨j, hj⟩ : ∃ j, i + 1 = j := ⟨_, rfl⟩
        have hij : (i : Int) + 1 = (j : Int) := by omega
        have hjk : j < K := by omega
        have hw1 : IntKind.i64.wrap ((j : Int) - 1) = (i : Int) := by rw [IntKind.wrap_i64]; omega
        have hik : i < K := by omega
        rw [hij] at hiz ⊢
        rw [hj] at c1
        clear hcs
        have hc0 : wr.drew.cell? ⟨b, o + j, none⟩ = some (.int .i64 (p1 : Int)) ∧ wr.drew.cell? ⟨b, o + i, none⟩ = some (.int .i64 (p0 : Int)) := ⟨c1, c0⟩
        have hA1 : (wr.alloc (.cells #[.int .i64 ((p1 : Int) - (p0 : Int) - 1)] 3)).drew.cell? ⟨b, o + j, none⟩ = some (.int .i64 (p1 : Int)) := cell_alloc c1 _
        have hA2 : (wr.alloc (.cells #[.int .i64 ((p1 : Int) - (p0 : Int) - 1)] 3)).drew.cell? ⟨b, o + i, none⟩ = some (.int .i64 (p0 : Int)) := cell_alloc c0 _
        have HBg : Hid (∀ W, Below w1.heap.size w1 W → W.cell? ⟨b, o + j, none⟩ = some (.int .i64 (p1 : Int)) ∧ W.cell? ⟨b, o + i, none⟩ = some (.int .i64 (p0 : Int))) := fun W hW => by
          obtain ⟨b', o', e, hcs⟩ := (HA.out.below hW).at (by omega)
          simp only [Option.some.injEq, Addr.mk.injEq, and_true] at e
          obtain ⟨rfl, rfl⟩ := e
          have c1' := hcs j hjk
          have c0' := hcs i (by omega)
          rw [pls_get S G hjk, ← hj, Hp1.out] at c1'
          rw [pls_get S G (by omega), Hp0.out] at c0'
          rw [← hj]
          exact ⟨c1', c0'⟩
        have HAp : Hid (∀ (gg c3 : Nat) w3, World.ownsRow w3 w1.heap.size 3 1 (.slice (some ⟨gg, 0, none⟩) (i + 1) c3) (i + 1) (ic (hls S G i) ++ [.int .i64 ((p1 : Int) - (p0 : Int) - 1)]) → (wr.alloc (.cells #[.int .i64 ((p1 : Int) - (p0 : Int) - 1)] 3)).drew.grownBy w3 v.ownBlock → TSt w1 w3 (hls S G (i + 1)) (.slice (some ⟨gg, 0, none⟩) (i + 1) c3)) := fun gg c3 w3 hown hgrow => by
          have hs := HT.out.below.size
          refine ⟨((HT.out.below.alloc hs _).drew).grown hgrow (by simp; omega) (fun j hj => (HT.out.own.lt j hj).1), ?_⟩
          rw [hhs, List.length_append, List.length_singleton, hlen, HH.out]
          have e : ic (hls S G i ++ [(p1 : Int) - (p0 : Int) - 1]) = ic (hls S G i) ++ [.int .i64 ((p1 : Int) - (p0 : Int) - 1)] := by simp [ic]
          rw [e]
          exact hown
        have HOw : Hid (wr.ownsRow w1.heap.size 3 1 v i (ic (hls S G i))) := by have := HT.out.own; rw [hlen] at this; exact this
        have hsz := HT.out.below.size
        have hw2 : IntKind.i64.wrap ((p1 : Int) - (p0 : Int)) = (p1 : Int) - (p0 : Int) := by rw [IntKind.wrap_i64]; omega
        have hw3 : IntKind.i64.wrap ((p1 : Int) - (p0 : Int) - 1) = (p1 : Int) - (p0 : Int) - 1 := by rw [IntKind.wrap_i64]; omega
        have HIJ := hidden hij
        clear hj hij hlen hhs HH c0 c1
        go_upto_region 8 with fail
        go_region_held3 (fun w' => w'.cell? ⟨b, o + j, none⟩ = some (.int .i64 (p1 : Int)) ∧ w'.cell? ⟨b, o + i, none⟩ = some (.int .i64 (p0 : Int))) (first | with_reducible assumption | exact ⟨hA1, hA2⟩ | exact HBg.out _ (HAp.out _ _ _ hown hgrow).below | exact (HBg.out _ (HAp.out _ _ _ hown hgrow).below).1 | exact (HBg.out _ (HAp.out _ _ _ hown hgrow).below).2)
          (first
            | (refine step_append_lies _ (by rfl) _ _ _ (by rfl) w1.heap.size 3 i0 _ 1 8 Tryd.underlying23 hii hz0 hz1 hz2 rfl (by omega) _ i (ic (hls S G i)) (by rfl) ((HOw.out.alloc _).drew)
                ⟨wr.heap.size, 0, none⟩ 1 1 [.int .i64 ((p1 : Int) - (p0 : Int) - 1)] (by rfl) (by rfl) (World.news_of_block (cs := #[.int .i64 ((p1 : Int) - (p0 : Int) - 1)]) (t := 3) (fr := (0, 0)) (heap_alloc_new wr _)) (by simp [Value.oneCell'])
                (by omega) (by unfold maxLen; omega) (by omega) (by simp; omega) (wr.heap.size + 1) (by simp) ?_; intro gg c3 w3 hown hgrow hat hlt))
        have HTn : Hid (TSt w1 w3 (hls S G (i + 1)) (.slice (some ⟨gg, 0, none⟩) (i + 1) c3)) := HAp.out _ _ _ hown hgrow
        clear hown hgrow hat hlt hc0 hA1 hA2
        go_wp2_with fail
        go_roundg (K - (i + 1))
        case measure => omega
        case rel => have hij := HIJ.out; exact ⟨i + 1, _, by omega, rfl, by go_num, by omega, HTn⟩
      · have hiz : ¬ (i : Int) + 1 < (K : Int) := by omega
        have HKi : Hid (K - 1 = i) := by unfold Hid; omega
        go_wp2_with fail
        go_ret2
        exact ⟨v, rfl, by rw [HKi.out]; exact own_base HT.out.own HB.out.size, HB.out.trans (HT.out.below.mono HB.out.size)⟩
  · have e2 : hk S G K = [] := by unfold hk; rw [if_neg h0]
    rw [e2]
    generalize cfault S G K = f at *
    have hcmp := cmp_ne f
    have hgrd := grd_ne f
    rw [decide_eq_false h0] at hcmp
    have hKl : kk S G K ≤ 9223372036854775807 := by have := hK.hk; have := hG.1; have := hG.2.1; unfold kk; split <;> omega
    have hlen := pls_len S G (kk S G K)
    generalize pls S G (kk S G K) = L at *
    clear e2 h0 hK hS hG hN
    go_enter Tryd.func11, Tryd.ntmps11
    go_wp2_with fail
    refine HC.out.mono ?_
    rintro e w1 ⟨v, rfl, hown, hb⟩
    have HB := hidden hb
    clear hown hb HC
    go_wp2_with fail
    go_ret2
    exact ⟨_, rfl, World.ownsRow_nil _ _ _ _, HB.out⟩
end Go.Proofs.YtjnkgbdpacdgpaaDoor.Audit

