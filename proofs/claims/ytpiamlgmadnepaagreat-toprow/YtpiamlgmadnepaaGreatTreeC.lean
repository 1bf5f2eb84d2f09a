/-
  What checkParents, ends, checkBelow and Kids of package tree return, and the library's ContainsFunc at numbers. They change nothing that was there.
-/
import Derived.Test.YtpiamlgmadnepaaGreatTreeB
import Derived.Deep.CutRange
namespace Go.Proofs.YtpiamlgmadnepaaGreat.Tree
open Go.ChangeShapes Go.WideShapes Go.ChangeAt Go.RowKit Go.Proofs.YtpiamlgmadnepaaGreat.Mem Go.Proofs.YtpiamlgmadnepaaGreat.TM
set_option linter.unusedVariables false

/-- a block that holds a slice -/
def SBox (w : World) (B : Nat) (v : Value) : Prop := w.heap[B]? = some (.cells #[v] 35 (0, 0))
theorem SBox.new (w : World) (v : Value) : SBox (w.alloc (.cells #[v] 35)) w.heap.size v := heap_alloc_new w _
theorem SBox.lt {w : World} {B : Nat} {v : Value} (h : SBox w B v) : B < w.heap.size := lt_of_block h
theorem SBox.cell {w : World} {B : Nat} {v : Value} (h : SBox w B v) : w.cell? ⟨B, 0, none⟩ = some v := by
  unfold SBox at h
  simp [World.cell?, h]
theorem SBox.below {w w' : World} {B C : Nat} {v : Value} (h : SBox w B v) (hb : Below C w w') (hB : B < C) : SBox w' B v := (hb.block B hB).trans h
theorem lit1 {w : World} {T : TypeId} (c0 : Value) : ∀ j u, [c0][j]? = some u → (w.alloc (.cells #[c0] T)).cell? ((⟨w.heap.size, 0, none⟩ : Addr).add j) = some u := by
  intro j u hu
  have := World.news_of_block (w := w.alloc (.cells #[c0] T)) (cs := #[c0]) (t := T) (fr := (0, 0)) (heap_alloc_new w _)
  exact this j u hu

set_option maxHeartbeats 2000000 in
set_option maxRecDepth 100000 in
theorem cl2_calls (p : Int) (B n cap : Nat) (a : Option Addr) (P : List Int) (w : World) (hb : SBox w B (.slice a n cap)) (hl : P.length = n) : Calls Tryz.prog 176 #[.int .i64 p, .pointer (some ⟨B, 0, none⟩)] w fun r w' => r = .returned (.bool (bad P p)) ∧ w' = w := by
  have C := hidden (fun w => isNode_calls n p w)
  have hc := hb.cell
  clear hb
  have HE : Hid (bad P p = (!decide (p = -1) && !isn n p)) := by unfold Hid bad; rw [hl]
  generalize bad P p = r at *
  clear hl
  by_cases h1 : p = -1
  · subst h1
    have HE2 : Hid (r = false) := by rw [HE.out]; exact hidden (by simp)
    clear HE
    go_enter Tryz.func176, Tryz.ntmps176
    go_wp2_with fail
    go_ret
    exact ⟨by rw [HE2.out]; rfl, rfl⟩
  · have h1' : (p != -1) = true := by simpa using h1
    obtain ⟨b, hbb⟩ : ∃ b, isn (n : Int) p = b := ⟨_, rfl⟩
    rw [hbb] at C
    have HE2 : Hid (r = !b) := by rw [HE.out]; exact hidden (by simp [h1, hbb])
    clear HE hbb
    go_enter Tryz.func176, Tryz.ntmps176
    go_wp2_with fail
    refine (C.out _).mono ?_
    rintro e w1 ⟨rfl, rfl⟩
    go_wp2_with fail
    go_ret
    exact ⟨by rw [HE2.out]; rfl, rfl⟩
theorem drop_int {L : List Int} {j : Nat} (h : j < L.length) : L.drop j = dg L j :: L.drop (j + 1) := by
  rw [List.drop_eq_getElem_cons h]
  simp [dg, List.getD_eq_getElem?_getD, List.getElem?_eq_getElem h]
set_option maxHeartbeats 2000000 in
set_option maxRecDepth 100000 in
theorem idxI_calls (a : Option Addr) (n cap : Nat) (P : List Int) (B : Nat) (w : World) (h : IArg w a n P) (hb : SBox w B (.slice a n cap)) :
    Calls Tryz.prog 178 #[.slice a n cap, .func (.func 176) #[] #[.pointer (some ⟨B, 0, none⟩)]] w fun r w' => ∃ i : Int, r = .returned (.int .i64 i) ∧ decide (0 ≤ i) = P.any (bad P) ∧ w' = w := by
  have hl := h.2.1
  have hn := h.2.2
  have HA := hidden h
  have HX := hidden hb
  clear h hb
  obtain ⟨q, hq⟩ : ∃ q, P.any (bad P) = q := ⟨_, rfl⟩
  have HQ : Hid ((P.drop 0).any (bad P) = q) := by unfold Hid; rw [List.drop_zero]; exact hq
  rw [hq]
  clear hq
  go_enter Tryz.func178, Tryz.ntmps178
  go_wp2_with fail
  go_loopg [8] n (fun g x wr => ∃ j : Nat, j + g = n ∧ x = .int .i64 (j : Int) ∧ Hid ((P.drop j).any (bad P) = q) ∧ w = wr)
  case atStart => exact ⟨0, by omega, rfl, HQ, rfl⟩
  case round =>
    obtain ⟨j, hjg, rfl, HK, rfl⟩ := hrel
    by_cases hj : j < n
    · have hjz : (j : Int) < (n : Int) := by omega
      obtain ⟨b, o, rfl, hcs⟩ := HA.out.at (by omega)
      have c0 := hcs j hj
      have hk := HK.out
      rw [drop_int (by omega), List.any_cons] at hk
      have C := hidden (cl2_calls (dg P j) B n cap _ P w HX.out hl)
      obtain ⟨m, hm⟩ : ∃ m, dg P j = m := ⟨_, rfl⟩
      rw [hm] at c0 C hk
      clear hm hcs HK
      cases ht : bad P m with
      | true =>
        rw [ht] at C hk
        simp only [Bool.true_or] at hk
        have HK := hidden hk
        clear hk ht
        go_wp2_with fail
        refine C.out.mono ?_
        rintro r w1 ⟨rfl, rfl⟩
        go_wp2_with fail
        go_ret
        exact ⟨(j : Int), rfl, by rw [← HK.out]; simp, rfl⟩
      | false =>
        rw [ht] at C hk
        simp only [Bool.false_or] at hk
        have HK := hidden hk
        clear hk ht
        go_wp2_with fail
        refine C.out.mono ?_
        rintro r w1 ⟨rfl, rfl⟩
        go_wp2_with fail
        go_roundg (n - (j + 1))
        case measure => omega
        case rel => exact ⟨j + 1, by omega, by go_num, HK, rfl⟩
    · have hjz : ¬ (j : Int) < (n : Int) := by omega
      have hk := HK.out
      rw [List.drop_eq_nil_of_le (by omega), List.any_nil] at hk
      have HK := hidden hk
      clear hk
      go_wp2_with fail
      go_ret
      exact ⟨-1, rfl, by rw [← HK.out]; simp, rfl⟩
set_option maxHeartbeats 2000000 in
theorem contI_calls (a : Option Addr) (n cap : Nat) (P : List Int) (B : Nat) (w : World) (h : IArg w a n P) (hb : SBox w B (.slice a n cap)) :
    Calls Tryz.prog 144 #[.slice a n cap, .func (.func 176) #[] #[.pointer (some ⟨B, 0, none⟩)]] w fun r w' => r = .returned (.bool (P.any (bad P))) ∧ w' = w := by
  have C := hidden (idxI_calls a n cap P B w h hb)
  obtain ⟨q, hq⟩ : ∃ q, P.any (bad P) = q := ⟨_, rfl⟩
  rw [hq] at C ⊢
  clear hq h hb
  go_enter Tryz.func144, Tryz.ntmps144
  go_wp2_with fail
  refine C.out.mono ?_
  rintro r w1 ⟨i, rfl, hi, rfl⟩
  cases q with
  | true =>
    go_wp2_with fail
    go_ret
    exact ⟨rfl, rfl⟩
  | false =>
    go_wp2_with fail
    go_ret
    exact ⟨rfl, rfl⟩
set_option maxHeartbeats 2000000 in
set_option maxRecDepth 100000 in
theorem ends_calls (a : Option Addr) (n cap : Nat) (P : List Int) (x : Nat) (w : World) (h : IArg w a n P) (hR : Rng P) (hx : x < n) :
    Calls Tryz.prog 177 #[.slice a n cap, .int .i64 (x : Int)] w fun r w' => r = .returned (.bool (en P x)) ∧ w' = w := by
  have hl := h.2.1
  have hn := h.2.2
  have HA := hidden h
  have HR := hidden hR
  clear h hR
  have HQ : Hid (decide (anc P n (x : Int) = -1) = en P x) := by unfold Hid en; rw [hl]
  generalize en P x = q at *
  go_enter Tryz.func177, Tryz.ntmps177
  go_wp2_with fail
  go_loopg [1, 7] n (fun g u v wr => ∃ j y k : Nat, j + g = n ∧ j + k = n ∧ y < n ∧ u = .int .i64 (y : Int) ∧ v = .int .i64 (j : Int) ∧ Hid (decide (anc P k (y : Int) = -1) = q) ∧ w = wr)
  case atStart => exact ⟨0, x, n, by omega, by omega, hx, rfl, rfl, HQ, rfl⟩
  case round =>
    obtain ⟨j, y, k, hjg, hjk, hy, rfl, rfl, HK, rfl⟩ := hrel
    by_cases hj : j < n
    · have hjz : (j : Int) < (n : Int) := by omega
      obtain ⟨b, o, rfl, hcs⟩ := HA.out.at (by omega)
      have c0 := hcs y hy
      have hk := HK.out
      obtain ⟨g', rfl⟩ : ∃ g', k = g' + 1 := ⟨k - 1, by omega⟩
      rw [anc, pa_nat] at hk
      have hr := HR.out y (by omega)
      obtain ⟨m, hm⟩ : ∃ m, dg P y = m := ⟨_, rfl⟩
      rw [hm] at c0 hk hr
      clear hm hcs HK
      by_cases hm : m = -1
      · subst hm
        rw [anc_neg] at hk
        have HK : Hid (q = true) := hidden (hk.symm.trans (by simp))
        clear hk hr
        go_wp2_with fail
        go_ret
        exact ⟨by rw [HK.out]; rfl, rfl⟩
      · obtain ⟨z, rfl⟩ : ∃ z : Nat, m = (z : Int) := ⟨m.toNat, by omega⟩
        have hz : z < n := by omega
        have hne : ((z : Int) == -1) = false := beq_eq_false_iff_ne.2 (by omega)
        have HK := hidden hk
        clear hk hr
        go_wp2_with fail
        go_roundg g'
        case measure => omega
        case rel => exact ⟨j + 1, z, g', by omega, by omega, hz, rfl, by go_num, HK, rfl⟩
    · have hjz : ¬ (j : Int) < (n : Int) := by omega
      have hk := HK.out
      obtain rfl : k = 0 := by omega
      rw [anc] at hk
      have HK : Hid (q = false) := hidden (hk.symm.trans (decide_eq_false (by omega)))
      clear hk
      go_wp2_with fail
      go_ret
      exact ⟨by rw [HK.out]; rfl, rfl⟩
theorem range_drop {n j : Nat} (h : j < n) : (List.range n).drop j = j :: (List.range n).drop (j + 1) := by
  rw [List.drop_eq_getElem_cons (by simpa using h)]
  simp
set_option maxHeartbeats 4000000 in
set_option maxRecDepth 100000 in
theorem parents_calls (a : Option Addr) (n cap : Nat) (P : List Int) (w : World) (h : IArg w a n P) :
    Calls Tryz.prog 142 #[.slice a n cap] w fun e w' => e = .returned (errv (pf P)) ∧ Below w.heap.size w w' := by
  have hl := h.2.1
  have hn := h.2.2
  have HB : Hid (∀ O, Below w.heap.size w (w.alloc O)) := fun O => below_alloc (Below.refl _ _) O
  obtain ⟨w1, hw1⟩ : ∃ w1, w.alloc (.cells #[.slice a n cap] 35) = w1 := ⟨_, rfl⟩
  have HW1 : Hid (Below w.heap.size w w1) := by rw [← hw1]; exact hidden (HB.out _)
  have hX : SBox w1 w.heap.size (.slice a n cap) := by rw [← hw1]; exact SBox.new _ _
  have HA := hidden (h.below HW1.out)
  have HX := hidden hX
  have hc := hX.cell
  have HC := hidden (contI_calls a n cap P w.heap.size w1 HA.out hX)
  have HWW := hidden hw1
  clear h hw1 hX
  by_cases h16 : 16 < n
  · have HE : Hid (pf P = 4) := by unfold Hid pf; rw [if_pos (by omega)]
    generalize pf P = f at *
    have d : decide (16 < (n : Int)) = true := by simp; omega
    go_enter Tryz.func142, Tryz.ntmps142
    go_upto_region 1 with fail
    rw [HWW.out]
    go_wp2_with fail
    go_ret
    exact ⟨by rw [HE.out]; rfl, HW1.out⟩
  · have d : decide (16 < (n : Int)) = false := by simp; omega
    cases hb : P.any (bad P) with
    | true =>
      have HE : Hid (pf P = 1) := by unfold Hid pf; rw [if_neg (by omega), if_pos hb]
      rw [hb] at HC
      generalize pf P = f at *
      clear hb
      go_enter Tryz.func142, Tryz.ntmps142
      go_upto_region 1 with fail
      rw [HWW.out]
      go_wp2_with fail
      refine HC.out.mono ?_
      rintro e w2 ⟨rfl, rfl⟩
      go_wp2_with fail
      go_ret
      exact ⟨by rw [HE.out]; rfl, HW1.out⟩
    | false =>
      have HR := hidden (bad_rng.1 hb)
      have HE : Hid ((if ((List.range n).drop 0).any (fun x => !en P x) = true then 3 else 0) = pf P) := hidden (Eq.symm (by unfold pf; rw [if_neg (by omega), hb, if_neg (by simp), List.drop_zero, hl]))
      rw [hb] at HC
      generalize pf P = f at *
      clear hb
      go_enter Tryz.func142, Tryz.ntmps142
      go_upto_region 1 with fail
      rw [HWW.out]
      go_wp2_with fail
      refine HC.out.mono ?_
      rintro e w2 ⟨rfl, rfl⟩
      go_wp2_with fail
      go_loopg [14] n (fun g x wr => ∃ j : Nat, j + g = n ∧ x = .int .i64 (j : Int) ∧ Hid ((if ((List.range n).drop j).any (fun x => !en P x) = true then 3 else 0) = f) ∧ w2 = wr)
      case atStart => exact ⟨0, by omega, rfl, HE, rfl⟩
      case round =>
        obtain ⟨j, hjg, rfl, HK, rfl⟩ := hrel
        by_cases hj : j < n
        · have hjz : (j : Int) < (n : Int) := by omega
          have hk := HK.out
          rw [range_drop hj, List.any_cons] at hk
          have C := hidden (ends_calls a n cap P j w2 HA.out HR.out hj)
          cases ht : en P j with
          | true =>
            rw [ht] at C hk
            simp only [Bool.not_true, Bool.false_or] at hk
            have HK := hidden hk
            clear hk ht
            go_wp2_with fail
            refine C.out.mono ?_
            rintro r w1 ⟨rfl, rfl⟩
            go_wp2_with fail
            go_roundg (n - (j + 1))
            case measure => omega
            case rel => exact ⟨j + 1, by omega, by go_num, HK, rfl⟩
          | false =>
            rw [ht] at C hk
            simp only [Bool.not_false, Bool.true_or, if_true] at hk
            have HK := hidden hk
            clear hk ht
            go_wp2_with fail
            refine C.out.mono ?_
            rintro r w1 ⟨rfl, rfl⟩
            go_wp2_with fail
            go_ret
            exact ⟨by rw [← HK.out]; rfl, HW1.out⟩
        · have hjz : ¬ (j : Int) < (n : Int) := by omega
          have hk := HK.out
          rw [List.drop_eq_nil_of_le (by simp; omega), List.any_nil, if_neg (by simp)] at hk
          have HK := hidden hk
          clear hk
          go_wp2_with fail
          go_ret
          exact ⟨by rw [← HK.out]; rfl, HW1.out⟩
set_option maxHeartbeats 2000000 in
set_option maxRecDepth 100000 in
theorem belowN_calls (a : Option Addr) (n cap : Nat) (P : List Int) (x : Int) (w : World) (h : IArg w a n P) :
    Calls Tryz.prog 109 #[.slice a n cap, .int .i64 x] w fun e w' => e = .returned (errv (bf P x)) ∧ Below w.heap.size w w' := by
  have hl := h.2.1
  have C := hidden (parents_calls a n cap P w h)
  have C2 := hidden (fun w => isNode_calls n x w)
  have HE : Hid (bf P x = if pf P ≠ 0 then pf P else if isn n x = false then 1 else 0) := by unfold Hid bf; rw [hl]
  generalize bf P x = r at *
  clear h hl
  by_cases h0 : pf P = 0
  · rw [h0, errv_zero] at C
    rw [if_neg (by simpa using h0)] at HE
    clear h0
    cases hi : isn (n : Int) x with
    | true =>
      rw [hi] at C2
      rw [hi, if_neg (by simp)] at HE
      clear hi
      go_enter Tryz.func109, Tryz.ntmps109
      go_wp2_with fail
      refine C.out.mono ?_
      rintro e w1 ⟨rfl, hw1⟩
      have HW := hidden hw1
      clear hw1
      go_wp2_with fail
      refine (C2.out _).mono ?_
      rintro e w2 ⟨rfl, rfl⟩
      go_wp2_with fail
      go_ret
      exact ⟨by rw [HE.out]; rfl, HW.out⟩
    | false =>
      rw [hi] at C2
      rw [hi, if_pos rfl] at HE
      clear hi
      go_enter Tryz.func109, Tryz.ntmps109
      go_wp2_with fail
      refine C.out.mono ?_
      rintro e w1 ⟨rfl, hw1⟩
      have HW := hidden hw1
      clear hw1
      go_wp2_with fail
      refine (C2.out _).mono ?_
      rintro e w2 ⟨rfl, rfl⟩
      go_wp2_with fail
      go_ret
      exact ⟨by rw [HE.out]; rfl, HW.out⟩
  · rw [if_pos (by simpa using h0)] at HE
    rw [errv_pos h0] at C
    have HE2 : Hid (errv r = .iface 101 (.int .i64 (pf P : Int))) := by rw [HE.out]; exact hidden (errv_pos h0)
    generalize pf P = f at *
    clear HE h0
    go_enter Tryz.func109, Tryz.ntmps109
    go_wp2_with fail
    refine C.out.mono ?_
    rintro e w1 ⟨rfl, hw1⟩
    have HW := hidden hw1
    clear hw1
    go_wp2_with fail
    go_ret
    exact ⟨by rw [HE2.out]; rfl, HW.out⟩

/-- numbers that were made since w -/
structure NSt (w wr : World) (K : List Int) (v : Value) : Prop where
  below : Below w.heap.size w wr
  own : wr.ownsRow w.heap.size 3 1 v K.length (ic K)
/-- what Kids gives -/
def kl (P : List Int) (x : Int) : List Int := if bf P x = 0 then kd P x P.length else []
theorem kl_len (P : List Int) (x : Int) : (kl P x).length ≤ 16 := by
  unfold kl
  split
  · rename_i h
    have := (bf_zero h).1.len
    have := kd_len P x P.length
    omega
  · simp
set_option maxHeartbeats 4000000 in
set_option maxRecDepth 100000 in
theorem kids_calls (a : Option Addr) (n cap : Nat) (P : List Int) (x : Int) (w : World) (h : IArg w a n P) :
    Calls Tryz.prog 84 #[.slice a n cap, .int .i64 x] w fun e w' => ∃ v, e = .returned (.tuple #[v, errv (bf P x)]) ∧ w'.ownsRow w.heap.size 3 1 v (kl P x).length (ic (kl P x)) ∧ Below w.heap.size w w' := by
  have hl := h.2.1
  have C := hidden (belowN_calls a n cap P x w h)
  have HA := hidden h
  clear h
  by_cases h0 : bf P x = 0
  · have h16 : n ≤ 16 := by have := (bf_zero h0).1.len; omega
    have hkl : kl P x = kd P x n := by unfold kl; rw [if_pos h0, hl]
    rw [hkl, h0]
    rw [h0] at C
    clear hkl h0
    rw [errv_zero] at C ⊢
    obtain ⟨i0, hii, hz0, hz1, hz2⟩ := info_parts info3
    go_enter Tryz.func84, Tryz.ntmps84
    go_wp2_with fail
    refine C.out.mono ?_
    rintro e w1 ⟨rfl, hw1⟩
    have HW := hidden hw1
    have HA1 := hidden (HA.out.below hw1)
    clear hw1
    have HN0 : Hid (NSt w w1 (kd P x 0) (.slice none 0 0)) := ⟨HW.out, World.ownsRow_nil _ _ _ _⟩
    go_wp2_with fail
    go_loopg [7, 18] n (fun g u y wr => ∃ (i : Nat) (v : Value), i + g = n ∧ v = u ∧ y = .int .i64 (i : Int) ∧ Hid (NSt w wr (kd P x i) v) ∧ Hid (IArg wr a n P))
    case atStart => exact ⟨0, _, by omega, rfl, rfl, HN0, HA1⟩
    case round =>
      obtain ⟨i, v, hig, rfl, rfl, HS, HA2⟩ := hrel
      by_cases hi : i < n
      · have hiz : (i : Int) < (n : Int) := by omega
        obtain ⟨b, o, rfl, hcs⟩ := HA2.out.at (by omega)
        have c0 := hcs i hi
        have hst := kd_step P x i
        obtain ⟨m, hm⟩ : ∃ m, dg P i = m := ⟨_, rfl⟩
        rw [hm] at c0 hst
        clear hm hcs
        by_cases he : m = x
        · subst he
          rw [if_pos rfl] at hst
          have HT := hidden hst
          clear hst
          have hlen := kd_len P m i
          go_wp2_with (at_builtin; refine wpList_append_own _ rfl _ _ 35 rfl w.heap.size 3 i0 _ 1 8 Tryz.underlying35 hii hz0 hz1 hz2 rfl (by decide) _ (kd P m i).length (ic (kd P m i)) rfl (HS.out.own.alloc _) ⟨wr.heap.size, 0, none⟩ 1 1 [.int .i64 (i : Int)] rfl rfl ?cc ?one ?b1 ?b2 ?b3 ?next)
          case cc => exact lit1 _
          case one => simp [Value.oneCell']
          case b1 => unfold maxLen; omega
          case b2 => omega
          case b3 => have := HS.out.below.size; simp; omega
          case next =>
          intro v3 w' hown hgrow _
          have HAn : Hid (IArg w' (some ⟨b, o, none⟩) n P) := by
            have hs := HS.out.below.size
            exact HA.out.below ((HS.out.below.alloc hs _).grown hgrow (by simp; omega) (fun j hj => (HS.out.own.lt j hj).1))
          have HSn : Hid (NSt w w' (kd P m (i + 1)) v3) := by
            have hs := HS.out.below.size
            refine ⟨(HS.out.below.alloc hs _).grown hgrow (by simp; omega) (fun j hj => (HS.out.own.lt j hj).1), ?_⟩
            rw [HT.out, List.length_append]
            have e : ic (kd P m i ++ [(i : Int)]) = ic (kd P m i) ++ [.int .i64 (i : Int)] := by simp [ic]
            rw [e]
            exact hown
          clear hown hgrow
          go_wp2_with fail
          go_roundg (n - (i + 1))
          case measure => omega
          case rel => exact ⟨i + 1, v3, by omega, rfl, by go_num, HSn, HAn⟩
        · rw [if_neg he] at hst
          have he' : (m == x) = false := by simpa using he
          have HSn : Hid (NSt w wr (kd P x (i + 1)) v) := by rw [hst]; exact HS
          clear hst
          go_wp2_with fail
          go_roundg (n - (i + 1))
          case measure => omega
          case rel => exact ⟨i + 1, v, by omega, rfl, by go_num, HSn, HA2⟩
      · have hiz : ¬ (i : Int) < (n : Int) := by omega
        obtain rfl : i = n := by omega
        go_wp2_with fail
        go_ret2
        exact ⟨v, rfl, HS.out.own, HS.out.below⟩
  · have hkl : kl P x = [] := by unfold kl; rw [if_neg h0]
    rw [hkl]
    clear hkl
    rw [errv_pos h0] at C ⊢
    generalize bf P x = f at *
    go_enter Tryz.func84, Tryz.ntmps84
    go_wp2_with fail
    refine C.out.mono ?_
    rintro e w1 ⟨rfl, hw1⟩
    have HW := hidden hw1
    clear hw1
    go_wp2_with fail
    go_ret2
    exact ⟨_, rfl, World.ownsRow_nil _ _ _ _, HW.out⟩
end Go.Proofs.YtpiamlgmadnepaaGreat.Tree

