/-
  What the reference's function Numbers returns of any pairs, and what it makes; and Pairs of any numbers. They change nothing that was there.
-/
import Derived.Test.YtjhfjkacfnccdabDoorRPairs2
namespace Go.Proofs.YtjhfjkacfnccdabDoor.Back
open Go.ChangeShapes Go.WideShapes Go.ChangeAt Go.RowKit Go.Sort Go.Lib Go.Proofs.YtjhfjkacfnccdabDoor.BM Go.Proofs.YtjhfjkacfnccdabDoor.Mem
set_option linter.unusedVariables false

theorem rpairs_gen (a : Option Addr) (n cap : Nat) (L : List Int) (w : World) (h : IArg w a n L) :
    Calls Tryd.prog 23 #[.slice a n cap] w fun e w' => ∃ a' m c', e = .returned (.tuple #[.slice a' m c', .int .i64 (pfault L : Int)]) ∧ PArg w' a' m (pr (prsOf L)) ∧ (a' = none → m = 0 ∧ c' = 0) ∧ Below w.heap.size w w' := by
  by_cases p : n ≤ 200
  · exact rpairs_good a n cap L w h p
  · have hl := h.2.1
    have hb := h.2.2
    have e : pfault L = 4 := by unfold pfault; rw [if_pos (by omega)]
    have e2 : prsOf L = [] := by rw [prsOf, if_neg (by rw [e]; decide)]
    rw [e, e2]
    have d : decide (200 < (n : Int)) = true := by simp; omega
    clear h
    go_enter Tryd.func23, Tryd.ntmps23
    go_wp2_with fail
    go_ret2
    exact ⟨none, 0, 0, rfl, PArg.nil _ _, fun _ => ⟨rfl, rfl⟩, Below.refl _ _⟩
theorem NSt.cast {w wr : World} {K K' : List Int} {v : Value} (h : NSt w wr K v) (e : K = K') : NSt w wr K' v := e ▸ h
theorem wrapN (c : Nat) (h : c < 65536) : wrap64 (c : Int) = (c : Int) := by unfold wrap64; omega
theorem bit_rem (m q : Nat) : (m / 2 ^ q % 2 = 1) ↔ m.testBit q = true := by
  rw [Nat.testBit_eq_decide_div_mod_eq, decide_eq_true_eq]
theorem isP_mk {b : Int} {m : Nat} (hb0 : 0 ≤ b) (hb1 : b ≤ 65535) (hm : m < 65536) : isP (b, (m : Int)) = true ↔ ∀ i : Nat, m.testBit i = true → b + (i : Int) + 1 ≤ 65535 := by
  rw [← bitLen_bits hm b hb1]
  simp only [isP, inR, Bool.and_eq_true, decide_eq_true_eq, Int.toNat_natCast]
  omega

set_option maxHeartbeats 8000000 in
set_option maxRecDepth 100000 in
theorem rnumbers_few (a : Option Addr) (n cap : Nat) (l : List (Int × Int)) (w : World) (h : PArg w a n l) (hn : n ≤ 200) :
    Calls Tryd.prog 26 #[.slice a n cap] w fun e w' => ∃ a' m c', e = .returned (.tuple #[.slice a' m c', .int .i64 (nfault l : Int)]) ∧ IArg w' a' m (numsOf l) ∧ (a' = none → m = 0 ∧ c' = 0) ∧ (∀ ad, a' = some ad → w.heap.size ≤ ad.block) ∧ Below w.heap.size w w' := by
  obtain ⟨i0, hii, hz0, hz1, hz2⟩ := info_parts info3
  have hl := h.2.1
  have HA := hidden h
  have d : decide (200 < (n : Int)) = false := by simp; omega
  have HBAD : Hid ((∃ p, p ∈ l ∧ isP p = false) → nfault l = 1 ∧ numsOf l = []) := fun ⟨x, hx, hb⟩ => by
    have e : nfault l = 1 := by
      unfold nfault
      rw [if_neg (by omega), if_pos]
      rw [List.any_eq_true]
      exact ⟨x, hx, by rw [hb]; rfl⟩
    exact ⟨e, by rw [numsOf, if_neg (by rw [e]; decide)]⟩
  have HGOOD : Hid ((∀ p ∈ l, isP p = true) → nfault l = 0 ∧ numsOf l = norm (told (l.map np))) := fun hg => by
    have e : nfault l = 0 := by
      unfold nfault
      rw [if_neg (by omega), if_neg]
      rw [Bool.not_eq_true, List.any_eq_false]
      intro x hx
      rw [hg x hx]
      decide
    exact ⟨e, by rw [numsOf, if_pos e]⟩
  have HT : Hid (∀ j, (told ((l.take j).map np)).length ≤ 3400) := fun j => by
    have := (told_len ((l.take j).map np)).2
    simp only [List.length_map, List.length_take] at this
    omega
  have HSO : Hid (∀ W a n c L, IArg W a n L → n ≤ 10000 → Calls Tryd.prog 53 #[.slice a n c] W _) := fun W a n c L h hn => sorted_calls a n c L W h hn
  generalize nfault l = F at *
  generalize numsOf l = NO at *
  clear h
  have HN0 : Hid (NSt w w (told ((l.take 0).map np)) (.slice none 0 0) ∧ ∀ p ∈ l.take 0, isP p = true) := ⟨⟨Below.refl _ _, World.ownsRow_nil _ _ _ _⟩, fun p hp => by simp at hp⟩
  go_enter Tryd.func26, Tryd.ntmps26
  go_wp2_with fail
  go_loopg [4, 5] n (fun g x y wr => ∃ (i : Nat) (v : Value), i + g = n ∧ x = v ∧ y = .int .i64 (i : Int) ∧ Hid (NSt w wr (told ((l.take i).map np)) v ∧ ∀ p ∈ l.take i, isP p = true))
  case atStart => exact ⟨0, _, by omega, rfl, rfl, HN0⟩
  case round =>
    obtain ⟨i, v, hig, rfl, rfl, HS⟩ := hrel
    by_cases hi : i < n
    · have hiz : (i : Int) < (n : Int) := by omega
      obtain ⟨wo, rfl⟩ : ∃ x, x = wr := ⟨_, rfl⟩
      obtain ⟨b, o, rfl, hbl, hcs⟩ := HA.out.at (by omega)
      have HCL : Hid (∀ W, Below w.heap.size w W → W.cell? ⟨b, o + i * 2, none⟩ = some (.int .i64 (l.getD i (0, 0)).1) ∧ W.cell? ⟨b, o + i * 2 + 1, none⟩ = some (.int .i64 (l.getD i (0, 0)).2)) := fun W hW =>
        ⟨(hW.cell (p := ⟨b, o + i * 2, none⟩) hbl).trans (hcs i hi).1, (hW.cell (p := ⟨b, o + i * 2 + 1, none⟩) hbl).trans (hcs i hi).2⟩
      obtain ⟨⟨bs, mi⟩, hp⟩ : ∃ p, l.getD i (0, 0) = p := ⟨_, rfl⟩
      rw [hp] at HCL
      simp only at HCL
      have HPM : Hid ((bs, mi) ∈ l) := by rw [← hp, List.getD_eq_getElem?_getD, List.getElem?_eq_getElem (by omega)]; exact List.getElem_mem _
      have HTK : Hid (l.take (i + 1) = l.take i ++ [(bs, mi)]) := by
        show _ = _
        rw [← hp, List.getD_eq_getElem?_getD, List.getElem?_eq_getElem (by omega), Option.getD_some, List.take_append_getElem (by omega)]
      clear hcs hp
      obtain ⟨hc0, hc1⟩ := HCL.out wo HS.out.1.below
      have HSQ1 := hidden (fun W => rseq_calls bs W)
      have HSQ2 := hidden (fun W => rseq_calls mi W)
      have hk := HT.out i
      obtain ⟨T, hT⟩ : ∃ T, told ((l.take i).map np) = T := ⟨_, rfl⟩
      rw [hT] at HS hk
      have HTT := hidden hT
      clear hT
      obtain ⟨q1, hq1⟩ : ∃ q, inR bs = q := ⟨_, rfl⟩
      rw [hq1] at HSQ1
      obtain ⟨q2, hq2⟩ : ∃ q, inR mi = q := ⟨_, rfl⟩
      rw [hq2] at HSQ2
      by_cases hq : q1 = true ∧ q2 = true
      · obtain ⟨rfl, rfl⟩ := hq
        have hbr : 0 ≤ bs ∧ bs ≤ 65535 := by simpa [inR] using hq1
        have hmr : 0 ≤ mi ∧ mi ≤ 65535 := by simpa [inR] using hq2
        obtain ⟨hb0, hb1⟩ := hbr
        obtain ⟨mk, rfl⟩ : ∃ y : Nat, mi = y := ⟨mi.toNat, by omega⟩
        have hmk : mk < 65536 := by omega
        have HIS := hidden (isP_mk hb0 hb1 hmk)
        clear hq1 hq2 hmr
        go_wp2_with fail
        refine (HSQ1.out _).mono ?_
        rintro e w1 ⟨rfl, rfl⟩
        go_wp2_with fail
        refine (HSQ2.out _).mono ?_
        rintro e w1 ⟨rfl, rfl⟩
        obtain ⟨wo, rfl⟩ : ∃ x, x = w1 := ⟨_, rfl⟩
        go_wp2_with (at_builtin; refine wpList_append_own _ rfl _ _ 53 rfl w.heap.size 3 i0 _ 1 8 Tryd.underlying53 hii hz0 hz1 hz2 rfl (by decide) _ T.length (ic T) rfl (HS.out.1.own.alloc _) ⟨wo.heap.size, 0, none⟩ 1 1 [.int .i64 bs] rfl rfl ?cc ?one ?b1 ?b2 ?b3 ?next)
        case cc => exact lit1 _
        case one => simp [Value.oneCell']
        case b1 => unfold maxLen; omega
        case b2 => omega
        case b3 => have := HS.out.1.below.size; simp; omega
        case next =>
        intro v3 w3 hown hgrow _
        have HN3 : Hid (NSt w w3 (T ++ tl bs mk 0) v3) := by
          have hs := HS.out.1.below.size
          refine ⟨(HS.out.1.below.alloc hs _).grown hgrow (by simp; omega) (fun j hj => (HS.out.1.own.lt j hj).1), ?_⟩
          have e : T ++ tl bs mk 0 = T ++ [bs] := rfl
          rw [e, List.length_append]
          have e2 : ic (T ++ [bs]) = ic T ++ [.int .i64 bs] := by simp [ic]
          rw [e2]
          exact hown
        clear hown hgrow hc0 hc1
        obtain ⟨hc0, hc1⟩ := HCL.out w3 HN3.out.below
        have em0 : mk / 2 ^ 0 = mk := by simp
        go_wp2_with fail
        go_loopg [4, 8, 9] 16 (fun g x y8 y9 wz => ∃ (q : Nat) (v' : Value), q + g = 16 ∧ x = v' ∧ y8 = .int .i64 ((mk / 2 ^ q : Nat) : Int) ∧ y9 = .int .i64 ((q : Int) + 1) ∧ Hid (NSt w wz (T ++ tl bs mk q) v' ∧ ∀ i : Nat, i < q → mk.testBit i = true → bs + (i : Int) + 1 ≤ 65535))
        case atStart => exact ⟨0, _, by omega, rfl, by rw [em0], rfl, HN3.out, fun i hi => by omega⟩
        case round =>
          obtain ⟨q, v4, hqg, rfl, rfl, rfl, HW⟩ := hrel
          clear hc0 hc1
          obtain ⟨hc0, hc1⟩ := HCL.out wr HW.out.1.below
          by_cases hq : q < 16
          · have hqz : (q : Int) + 1 ≤ 16 := by omega
            have htl := tl_len bs mk q
            obtain ⟨c, hcc⟩ : ∃ c, mk / 2 ^ q = c := ⟨_, rfl⟩
            have hcl : c < 65536 := by rw [← hcc]; exact Nat.lt_of_le_of_lt (Nat.div_le_self _ _) hmk
            have HC2 : Hid (mk / 2 ^ (q + 1) = c / 2) := hidden (by rw [← hcc, Nat.pow_succ, Nat.div_div_eq_div_mul])
            have HCB : Hid (c % 2 = 1 ↔ mk.testBit q = true) := by
              have := bit_rem mk q
              rw [hcc] at this
              exact this
            rw [hcc]
            clear hcc
            have hrem : ((c : Int)).tmod 2 = ((c % 2 : Nat) : Int) := rfl
            have hquo : ((c : Int)).tdiv 2 = ((c / 2 : Nat) : Int) := rfl
            have HC2L : Hid (c / 2 < 65536) := by show c / 2 < 65536; omega
            by_cases hr : c % 2 = 1
            · have hbit := HCB.out.1 hr
              have er : (((c % 2 : Nat) : Int) == 1) = true := by rw [hr]; rfl
              generalize c % 2 = r2 at *
              generalize c / 2 = c2 at *
              by_cases hov : 65535 < bs + ((q : Int) + 1)
              · have hbad : isP (bs, (mk : Int)) = false := by
                  by_cases hh : isP (bs, (mk : Int)) = true
                  · have := HIS.out.1 hh q hbit; omega
                  · simpa using hh
                obtain ⟨e1, e2⟩ := HBAD.out ⟨_, HPM.out, hbad⟩
                subst e1 e2
                clear hbad
                go_wp2_with (at_builtin; refine wpList_append_own _ rfl _ _ 53 rfl w.heap.size 3 i0 _ 1 8 Tryd.underlying53 hii hz0 hz1 hz2 rfl (by decide) _ (T ++ tl bs mk q).length (ic (T ++ tl bs mk q)) rfl (HW.out.1.own.alloc _) ⟨wr.heap.size, 0, none⟩ 1 1 [.int .i64 (bs + ((q : Int) + 1))] rfl rfl ?cc ?one ?b1 ?b2 ?b3 ?next)
                case one => simp [Value.oneCell']
                case b1 => unfold maxLen; first | omega | (simp; omega)
                case b2 => first | omega | (simp; omega)
                case b3 => have := HW.out.1.below.size; simp; omega
                case next =>
                intro v5 w5 hown hgrow _
                have HB5 : Hid (Below w.heap.size w w5) := (HW.out.1.below.alloc HW.out.1.below.size _).grown hgrow (by have := HW.out.1.below.size; simp; omega) (fun j hj => (HW.out.1.own.lt j hj).1)
                clear hown hgrow hc0 hc1
                obtain ⟨hc0, hc1⟩ := HCL.out w5 HB5.out
                go_wp2_with fail
                go_ret2
                exact ⟨none, 0, 0, rfl, IArg.nil _ _, fun _ => ⟨rfl, rfl⟩, fun ad e => by simp at e, HB5.out⟩
              · go_wp2_with (at_builtin; refine wpList_append_own _ rfl _ _ 53 rfl w.heap.size 3 i0 _ 1 8 Tryd.underlying53 hii hz0 hz1 hz2 rfl (by decide) _ (T ++ tl bs mk q).length (ic (T ++ tl bs mk q)) rfl (HW.out.1.own.alloc _) ⟨wr.heap.size, 0, none⟩ 1 1 [.int .i64 (bs + ((q : Int) + 1))] rfl rfl ?cc ?one ?b1 ?b2 ?b3 ?next)
                case one => simp [Value.oneCell']
                case b1 => unfold maxLen; first | omega | (simp; omega)
                case b2 => first | omega | (simp; omega)
                case b3 => have := HW.out.1.below.size; simp; omega
                case next =>
                intro v5 w5 hown hgrow _
                have HWn : Hid (NSt w w5 (T ++ tl bs mk (q + 1)) v5 ∧ ∀ i : Nat, i < q + 1 → mk.testBit i = true → bs + (i : Int) + 1 ≤ 65535) := by
                  have hs := HW.out.1.below.size
                  refine ⟨⟨(HW.out.1.below.alloc hs _).grown hgrow (by simp; omega) (fun j hj => (HW.out.1.own.lt j hj).1), ?_⟩, fun i hi hb => ?_⟩
                  · rw [tl_yes hbit, ← List.append_assoc, List.length_append, List.length_append]
                    have e2 : ic (T ++ tl bs mk q ++ [bs + (q : Int) + 1]) = ic (T ++ tl bs mk q) ++ [.int .i64 (bs + ((q : Int) + 1))] := by simp [ic, Int.add_assoc]
                    rw [e2]
                    exact hown
                  · by_cases e : i = q
                    · subst e; omega
                    · exact HW.out.2 i (by omega) hb
                clear hown hgrow hc0 hc1
                obtain ⟨hc0, hc1⟩ := HCL.out w5 HWn.out.1.below
                go_wp2_with fail
                go_roundg (16 - (q + 1))
                case measure => omega
                case rel => exact ⟨q + 1, v5, by omega, rfl, by rw [HC2.out]; first | rfl | rw [wrapN _ HC2L.out], by go_num, HWn⟩
            · have hbit : mk.testBit q = false := by
                by_cases hh : mk.testBit q = true
                · exact absurd (HCB.out.2 hh) hr
                · simpa using hh
              have er : (((c % 2 : Nat) : Int) == 1) = false := by rw [beq_eq_false_iff_ne]; omega
              have hwn : ∀ i : Nat, i < q + 1 → mk.testBit i = true → bs + (i : Int) + 1 ≤ 65535 := by
                intro i hi hb
                by_cases e : i = q
                · subst e; rw [hbit] at hb; simp at hb
                · exact HW.out.2 i (by omega) hb
              have HWn := hidden (And.intro (HW.out.1.cast (show T ++ tl bs mk q = T ++ tl bs mk (q + 1) by rw [tl_no hbit])) hwn)
              clear hwn
              generalize c % 2 = r2 at *
              generalize c / 2 = c2 at *
              go_wp2_with fail
              go_roundg (16 - (q + 1))
              case measure => omega
              case rel => exact ⟨q + 1, _, by omega, rfl, by rw [HC2.out]; first | rfl | rw [wrapN _ HC2L.out], by go_num, HWn⟩
          · have hqz : ¬ ((q : Int) + 1 ≤ 16) := by omega
            have eq16 : q = 16 := by omega
            subst eq16
            have hsn : ∀ p ∈ l.take (i + 1), isP p = true := by
              have hgd : isP (bs, (mk : Int)) = true := HIS.out.2 fun j hj => by
                by_cases h16 : j < 16
                · exact HW.out.2 j h16 hj
                · rw [Nat.testBit_lt_two_pow (Nat.lt_of_lt_of_le hmk (Nat.pow_le_pow_right (n := 2) (j := j) (by decide) (by omega : 16 ≤ j)))] at hj
                  simp at hj
              intro p hp
              rw [HTK.out] at hp
              rcases List.mem_append.1 hp with hp | hp
              · exact HS.out.2 p hp
              · obtain rfl := List.mem_singleton.1 hp; exact hgd
            have HSn := hidden (And.intro (HW.out.1.cast (show T ++ tl bs mk 16 = told ((l.take (i + 1)).map np) by
              rw [HTK.out, List.map_append, told_app, HTT.out]
              have e : told ([(bs, (mk : Int))].map np) = tl bs mk 16 := by simp [told_one, np, tl_all]
              rw [e])) hsn)
            clear hsn
            go_wp2_with fail
            go_roundg (n - (i + 1))
            case measure => omega
            case rel => exact ⟨i + 1, _, by omega, rfl, by go_num, HSn⟩
      · have hbad : isP (bs, mi) = false := by
          by_cases e1 : q1 = true
          · have e2 : q2 = false := by
              cases q2 with
              | true => exact absurd ⟨e1, rfl⟩ hq
              | false => rfl
            subst e2
            simp [isP, hq2]
          · have e1' : q1 = false := by simpa using e1
            subst e1'
            simp [isP, hq1]
        obtain ⟨e1, e2⟩ := HBAD.out ⟨_, HPM.out, hbad⟩
        subst e1 e2
        clear hbad hq1 hq2
        have hor : (!q1 || !q2) = true := by
          cases q1 <;> cases q2 <;> simp at hq ⊢
        cases q1 with
        | false =>
          go_wp2_with fail
          refine (HSQ1.out _).mono ?_
          rintro e w1 ⟨rfl, rfl⟩
          go_wp2_with fail
          refine (HSQ2.out _).mono ?_
          rintro e w1 ⟨rfl, rfl⟩
          go_wp2_with fail
          go_ret2
          exact ⟨none, 0, 0, rfl, IArg.nil _ _, fun _ => ⟨rfl, rfl⟩, fun ad e => by simp at e, HS.out.1.below⟩
        | true =>
          have e2 : q2 = false := by
            cases q2 with
            | true => exact absurd ⟨rfl, rfl⟩ hq
            | false => rfl
          subst e2
          go_wp2_with fail
          refine (HSQ1.out _).mono ?_
          rintro e w1 ⟨rfl, rfl⟩
          go_wp2_with fail
          refine (HSQ2.out _).mono ?_
          rintro e w1 ⟨rfl, rfl⟩
          go_wp2_with fail
          go_ret2
          exact ⟨none, 0, 0, rfl, IArg.nil _ _, fun _ => ⟨rfl, rfl⟩, fun ad e => by simp at e, HS.out.1.below⟩
    · have hiz : ¬ (i : Int) < (n : Int) := by omega
      have ei : i = n := by omega
      subst ei
      have hk := HT.out i
      have HN := hidden HS.out.1
      have hall := HS.out.2
      rw [List.take_of_length_le (by omega)] at HN hall hk
      obtain ⟨e1, e2⟩ := HGOOD.out hall
      subst e1
      have HE2 := hidden e2
      clear hall HBAD HGOOD e2
      obtain ⟨a3, c3, rfl, hI3, _⟩ := own_ints HN.out.own (by omega)
      have HI3 := hidden hI3
      clear hI3
      generalize told (l.map np) = T at *
      go_wp2_with fail
      refine (HSO.out _ _ _ _ _ HI3.out (by omega)).mono ?_
      rintro e w3 ⟨v3, rfl, ho3, hb3⟩
      have HB3 := hidden (HN.out.below.trans (hb3.mono HN.out.below.size))
      obtain ⟨a4, c4, rfl, hI4, hn4, _, hf4⟩ := own_ints ho3 (by have := norm_len T; omega)
      have HF4 : Hid (∀ ad, a4 = some ad → w.heap.size ≤ ad.block) := fun ad e => by
        obtain ⟨g, rfl, hg, _⟩ := hf4 ad e
        have := HN.out.below.size
        show w.heap.size ≤ g
        omega
      have HI4 := hidden hI4
      have HN4 := hidden hn4
      clear ho3 hb3 hI4 hn4 hf4
      go_wp2_with fail
      go_ret2
      exact ⟨a4, _, c4, rfl, by rw [HE2.out]; exact HI4.out, HN4.out, HF4.out, HB3.out⟩

theorem rnumbers_gen (a : Option Addr) (n cap : Nat) (l : List (Int × Int)) (w : World) (h : PArg w a n l) :
    Calls Tryd.prog 26 #[.slice a n cap] w fun e w' => ∃ a' m c', e = .returned (.tuple #[.slice a' m c', .int .i64 (nfault l : Int)]) ∧ IArg w' a' m (numsOf l) ∧ (a' = none → m = 0 ∧ c' = 0) ∧ (∀ ad, a' = some ad → w.heap.size ≤ ad.block) ∧ Below w.heap.size w w' := by
  by_cases p : n ≤ 200
  · exact rnumbers_few a n cap l w h p
  · have hl := h.2.1
    have hb := h.2.2
    have e : nfault l = 4 := by unfold nfault; rw [if_pos (by omega)]
    have e2 : numsOf l = [] := by rw [numsOf, if_neg (by rw [e]; decide)]
    rw [e, e2]
    have d : decide (200 < (n : Int)) = true := by simp; omega
    clear h
    go_enter Tryd.func26, Tryd.ntmps26
    go_wp2_with fail
    go_ret2
    exact ⟨none, 0, 0, rfl, IArg.nil _ _, fun _ => ⟨rfl, rfl⟩, fun ad e => by simp at e, Below.refl _ _⟩
end Go.Proofs.YtjhfjkacfnccdabDoor.Back
