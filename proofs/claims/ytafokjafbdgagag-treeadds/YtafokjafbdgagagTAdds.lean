/-
  TreeAdds, walked: it answers true, and changes nothing that was there.
-/
import Derived.Test.YtafokjafbdgagagTreeJ
import Derived.Test.YtafokjafbdgagagTreeMath3
namespace Go.Proofs.Ytafokjafbdgagag.Adds
open Go.ChangeShapes Go.WideShapes Go.ChangeAt Go.RowKit Go.Proofs.Ytafokjafbdgagag.Mem Go.Proofs.Ytafokjafbdgagag.TM Go.Proofs.Ytafokjafbdgagag.Tree
set_option linter.unusedVariables false

theorem any_take {K : List Int} {k : Nat} (v : Int) (h : k < K.length) : (K.take (k + 1)).any (fun z => z == v) = ((K.take k).any (fun z => z == v) || (dg K k == v)) := by
  rw [← List.take_append_getElem h, List.any_append]
  simp [dg, List.getD_eq_getElem?_getD, List.getElem?_eq_getElem h]

set_option maxHeartbeats 16000000 in
set_option maxRecDepth 100000 in
theorem walk_adds (N r x : Int) (a : Option Addr) (n cap : Nat) (L : List Ed) (w : World) (h : EArg w a n L) (hnc : n ≤ cap) :
    Calls Try.prog 4 #[.int .i64 N, .slice a n cap, .int .i64 r, .int .i64 x] w fun e w' => e = .returned (.bool true) ∧ Below w.heap.size w w' := by
  have C := hidden (build_calls N r a n cap L w h hnc)
  have HA := hidden h
  have hl := h.2.1
  have hn := h.2.2
  clear h
  go_enter Try.func4, Try.ntmps4
  go_wp2_with fail
  refine C.out.mono ?_
  rintro e w1 ⟨vp, vd, P, D, rfl, hQ⟩
  have HQ := hidden hQ
  clear C
  by_cases h0 : lf N L r = 0
  · obtain ⟨m, root, rfl, rfl, hroot, hF⟩ := lf_zero h0
    obtain ⟨hD, hP, hbd⟩ := hQ.bp.2 h0
    simp only [Int.toNat_natCast] at hD hP
    have hO := pars_ok hF hD hroot hP
    have hm16 := hF.hi
    have hPl := hP.len
    have hDl := hD.len
    rw [h0, errv_zero]
    have HF := hidden hF
    have HD := hidden hD
    have HP := hidden hP
    have HBD := hidden hbd
    have HO := hidden hO
    clear hF hD hP hbd hO h0 hQ
    by_cases hx0 : x < 0
    · have d0 : decide (x < 0) = true := by simpa using hx0
      go_wp2_with fail
      go_ret
      exact ⟨rfl, HQ.out.bel⟩
    have d0 : decide (x < 0) = false := by simpa using hx0
    by_cases hxm : (m : Int) ≤ x
    · have d1 : decide ((m : Int) ≤ x) = true := by simpa using hxm
      go_wp2_with fail
      go_ret
      exact ⟨rfl, HQ.out.bel⟩
    have d1 : decide ((m : Int) ≤ x) = false := by simpa using hxm
    obtain ⟨node, rfl⟩ : ∃ q : Nat, x = (q : Int) := ⟨x.toNat, by omega⟩
    have hnode : node < m := by omega
    clear hx0 hxm
    have o1 := HQ.out.own1
    have o2 := HQ.out.own2
    rw [hPl] at o1
    rw [hDl] at o2
    obtain ⟨ap, cp, rfl, hI1, _, _, _⟩ := own_ints o1 (by omega)
    obtain ⟨ad, cd, rfl, hI2, _, _, _⟩ := own_ints o2 (by omega)
    have HI1 := hidden hI1
    have HI2 := hidden hI2
    have HA1 := hidden (HA.out.below HQ.out.bel)
    have hbf : bf P (node : Int) = 0 := bf_of HO.out (by omega)
    have C2 := hidden (path_calls ap m cp P (node : Int) w1 hI1)
    rw [hbf, errv_zero] at C2
    have hW : DnW P node (pl P (node : Int)) := by
      unfold pl
      rw [if_pos hbf]
      exact (wu_up HO.out.rng P.length node (by omega) (HO.out.ends node (by omega))).down
    have hWl := pl_len P (node : Int)
    generalize pl P (node : Int) = W at *
    have HWW := hidden hW
    clear o1 o2 hI1 hI2 hbf hW
    go_wp2_with fail
    refine C2.out.mono ?_
    rintro e w2 ⟨vw, rfl, ho, hb⟩
    have HB0 : Hid (Below w.heap.size w w2) := HQ.out.bel.trans (hb.mono HQ.out.bel.size)
    obtain ⟨aw, cw, rfl, hIW, _, _, _⟩ := own_ints ho (by omega)
    have HIW := hidden hIW
    have HI1b := hidden (HI1.out.below hb)
    have HI2b := hidden (HI2.out.below hb)
    have HA2 := hidden (HA1.out.below hb)
    have hpos := HWW.out.pos
    have dpos : decide ((W.length : Int) < 1) = false := by simp; omega
    clear ho hb hIW C2 HI1 HI2 HA1
    obtain ⟨bd, od, rfl, hcd⟩ := HI2b.out.at (by omega)
    have HCD := hidden hcd
    obtain ⟨bw, ow, rfl, hcw⟩ := HIW.out.at (by omega)
    have HCW := hidden hcw
    clear hcd hcw
    by_cases hneg : dg D node < 0
    · have hone := HWW.out.one HD.out hroot HP.out hneg
      have cn := HCD.out node hnode
      have hnz : (node : Int) < (m : Int) := by omega
      have en : (dg D node == 0) = false := beq_eq_false_iff_ne.2 (by omega)
      have dn : decide (dg D node < 0) = true := by simpa using hneg
      generalize hWL : W.length = wl at *
      subst hone
      clear hneg
      generalize dg D node = y at *
      go_wp2_with fail
      go_loopg [14, 15] 0 (fun g u v wr => u = .int .i64 0 ∧ v = .int .i64 1 ∧ w2 = wr)
      case atStart => exact ⟨rfl, rfl, rfl⟩
      case round =>
        obtain ⟨rfl, rfl, rfl⟩ := hrel
        go_wp2_with fail
        go_ret
        exact ⟨rfl, HB0.out⟩
    have hrt := HWW.out.root HD.out hroot HP.out (by omega)
    have hd0 := HD.out.root hroot
    have HS0 : Hid ((0 : Int) = dg D (dg W (1 - 1)).toNat) := by rw [Nat.sub_self, hrt, Int.toNat_natCast, hd0]; exact hidden rfl
    have HRT := hidden hrt
    clear hrt hd0
    go_wp2_with fail
    go_loopg [14, 15] 16 (fun g u v wr => ∃ (i : Nat) (s : Int), W.length - i ≤ g ∧ 1 ≤ i ∧ i ≤ W.length ∧ u = .int .i64 s ∧ v = .int .i64 (i : Int) ∧ Hid (s = dg D (dg W (i - 1)).toNat) ∧ Hid (Below w2.heap.size w2 wr))
    case atStart => exact ⟨1, 0, by omega, by omega, by omega, rfl, rfl, HS0, Below.refl _ _⟩
    case round =>
      obtain ⟨i, s, hig, hi1, hil, rfl, rfl, HS, HB⟩ := hrel
      by_cases hi : i < W.length
      · have hiz : (i : Int) < (W.length : Int) := by omega
        obtain ⟨u, v, hu, hv, eu, ev, epv, hc0, hcs, hdu⟩ := HWW.out.step HD.out hroot HP.out hi1 hi
        have HC0 : Hid (cst (L.take 0) (u : Int) (v : Int) = 0) := rfl
        obtain ⟨wo, hwo⟩ : ∃ wo, wo = wr := ⟨_, rfl⟩
        subst hwo
        have him : ((i : Int) - 1) = ((i - 1 : Nat) : Int) := by omega
        obtain ⟨i1, hi1e⟩ : ∃ i1 : Nat, i - 1 = i1 := ⟨_, rfl⟩
        rw [hi1e] at him eu
        have hi1l : (i1 : Int) < (W.length : Int) := by omega
        have hwi : IntKind.i64.wrap ((i : Int) - 1) = (i1 : Int) := by rw [wrap_id (by omega) (by omega)]; exact him
        have HSu : Hid (s = dg D u) := by have := HS.out; rw [hi1e, eu, Int.toNat_natCast] at this; exact this
        have hs0 : 0 ≤ s := by rw [HSu.out]; exact hdu
        have hs1 : s ≤ 16000000 := by rw [HSu.out]; exact HBD.out u
        have HV : Hid (s + cst L (u : Int) (v : Int) = dg D v) := by rw [HSu.out]; exact hidden hcs
        have HEV := hidden ev
        have HEU := hidden eu
        have HPV := hidden epv
        have HPOS := hidden hc0
        clear him hc0 hcs hdu ev eu epv HS HSu HS0
        go_wp2_with fail
        go_loopg [16, 17] n (fun g p q wq => ∃ (k : Nat) (c : Int), k + g = n ∧ p = .int .i64 c ∧ q = .int .i64 (k : Int) ∧ Hid (cst (L.take k) (u : Int) (v : Int) = c) ∧ Hid (Below w2.heap.size w2 wq))
        case atStart => exact ⟨0, 0, by omega, rfl, rfl, HC0, HB⟩
        case round =>
          obtain ⟨k, c, hkg, rfl, rfl, HC, HB⟩ := hrel
          by_cases hk : k < n
          · have hkz : (k : Int) < (n : Int) := by omega
            obtain ⟨b, o, rfl, hbl, hcs⟩ := (HA2.out.below HB.out).at (by omega)
            obtain ⟨c0, c1, c2⟩ := hcs k hk
            have hct := cst_take (L := L) (j := k) (by omega) (u : Int) (v : Int)
            rw [HC.out] at hct
            obtain ⟨me, hme⟩ : ∃ me, L.getD k zz = me := ⟨_, rfl⟩
            rw [hme] at c0 c1 c2 hct
            clear hcs hme
            obtain ⟨xa, xb, xc⟩ := me
            simp only at c0 c1 c2 hct
            have p1 : _ := (HIW.out.below HB.out).at (by omega)
            obtain ⟨bw', ow', ebw, hpw⟩ := p1
            simp only [Option.some.injEq, Addr.mk.injEq] at ebw
            obtain ⟨rfl, rfl, _⟩ := ebw
            have p1 := hpw i1 (by omega)
            have p2 := hpw i hi
            rw [HEU.out] at p1
            rw [HEV.out] at p2
            clear hpw
            by_cases h1 : xa = u
            · have eh1 : (xa == (u : Int)) = true := by simpa using h1
              by_cases h2 : xb = v
              · have eh2 : (xb == (v : Int)) = true := by simpa using h2
                rw [show jn ⟨xa, xb, xc⟩ u v = true by rw [jn_iff]; exact .inl ⟨h1, h2⟩] at hct
                rw [if_pos rfl] at hct
                have HCT := hidden hct
                clear hct h1 h2
                go_wp2_with fail
                go_quiet (fail)
                go_wp2_with fail
                go_roundg (n - (k + 1))
                case measure => omega
                case rel => exact ⟨k + 1, _, by omega, rfl, by go_num, HCT, hidden (below_drewN' HB.out _)⟩
              · have eh2 : (xb == (v : Int)) = false := by simpa using h2
                by_cases h3 : xb = u
                · have eh3 : (xb == (u : Int)) = true := by simpa using h3
                  by_cases h4 : xa = v
                  · have eh4 : (xa == (v : Int)) = true := by simpa using h4
                    rw [show jn ⟨xa, xb, xc⟩ u v = true by rw [jn_iff]; exact .inr ⟨h3, h4⟩] at hct
                    rw [if_pos rfl] at hct
                    have HCT := hidden hct
                    clear hct h1 h2 h3 h4
                    go_wp2_with fail
                    go_quiet (fail)
                    go_wp2_with fail
                    go_roundg (n - (k + 1))
                    case measure => omega
                    case rel => exact ⟨k + 1, _, by omega, rfl, by go_num, HCT, hidden (below_drewN' HB.out _)⟩
                  · have eh4 : (xa == (v : Int)) = false := by simpa using h4
                    rw [show jn ⟨xa, xb, xc⟩ u v = false by rw [← Bool.not_eq_true, jn_iff]; rintro (⟨q1, q2⟩ | ⟨q1, q2⟩); (· exact h2 q2); (· exact h4 q2)] at hct
                    rw [if_neg (by simp)] at hct
                    have HCT := hidden hct
                    clear hct h1 h2 h3 h4
                    go_wp2_with fail
                    go_quiet (fail)
                    go_wp2_with fail
                    go_roundg (n - (k + 1))
                    case measure => omega
                    case rel => exact ⟨k + 1, _, by omega, rfl, by go_num, HCT, hidden (below_drewN' HB.out _)⟩
                · have eh3 : (xb == (u : Int)) = false := by simpa using h3
                  rw [show jn ⟨xa, xb, xc⟩ u v = false by rw [← Bool.not_eq_true, jn_iff]; rintro (⟨q1, q2⟩ | ⟨q1, q2⟩); (· exact h2 q2); (· exact h3 q1)] at hct
                  rw [if_neg (by simp)] at hct
                  have HCT := hidden hct
                  clear hct h1 h2 h3
                  go_wp2_with fail
                  go_quiet (fail)
                  go_wp2_with fail
                  go_roundg (n - (k + 1))
                  case measure => omega
                  case rel => exact ⟨k + 1, _, by omega, rfl, by go_num, HCT, hidden (below_drewN' HB.out _)⟩
            · have eh1 : (xa == (u : Int)) = false := by simpa using h1
              by_cases h3 : xb = u
              · have eh3 : (xb == (u : Int)) = true := by simpa using h3
                by_cases h4 : xa = v
                · have eh4 : (xa == (v : Int)) = true := by simpa using h4
                  rw [show jn ⟨xa, xb, xc⟩ u v = true by rw [jn_iff]; exact .inr ⟨h3, h4⟩] at hct
                  rw [if_pos rfl] at hct
                  have HCT := hidden hct
                  clear hct h1 h3 h4
                  go_wp2_with fail
                  go_quiet (fail)
                  go_wp2_with fail
                  go_roundg (n - (k + 1))
                  case measure => omega
                  case rel => exact ⟨k + 1, _, by omega, rfl, by go_num, HCT, hidden (below_drewN' HB.out _)⟩
                · have eh4 : (xa == (v : Int)) = false := by simpa using h4
                  rw [show jn ⟨xa, xb, xc⟩ u v = false by rw [← Bool.not_eq_true, jn_iff]; rintro (⟨q1, q2⟩ | ⟨q1, q2⟩); (· exact h1 q1); (· exact h4 q2)] at hct
                  rw [if_neg (by simp)] at hct
                  have HCT := hidden hct
                  clear hct h1 h3 h4
                  go_wp2_with fail
                  go_quiet (fail)
                  go_wp2_with fail
                  go_roundg (n - (k + 1))
                  case measure => omega
                  case rel => exact ⟨k + 1, _, by omega, rfl, by go_num, HCT, hidden (below_drewN' HB.out _)⟩
              · have eh3 : (xb == (u : Int)) = false := by simpa using h3
                rw [show jn ⟨xa, xb, xc⟩ u v = false by rw [← Bool.not_eq_true, jn_iff]; rintro (⟨q1, q2⟩ | ⟨q1, q2⟩); (· exact h1 q1); (· exact h3 q1)] at hct
                rw [if_neg (by simp)] at hct
                have HCT := hidden hct
                clear hct h1 h3
                go_wp2_with fail
                go_quiet (fail)
                go_wp2_with fail
                go_roundg (n - (k + 1))
                case measure => omega
                case rel => exact ⟨k + 1, _, by omega, rfl, by go_num, HCT, hidden (below_drewN' HB.out _)⟩
          · have hkz : ¬ (k : Int) < (n : Int) := by omega
            obtain rfl : k = n := by omega
            have hc := HC.out
            rw [← hl, List.take_length] at hc
            have hcp := HPOS.out
            rw [hc] at hcp
            have HV2 : Hid (s + c = dg D v) := by rw [← hc]; exact HV
            have hcne : (c == 0) = false := beq_eq_false_iff_ne.2 (by omega)
            have hcb : c ≤ 1000000 := by rw [← hc]; exact (cst_range HF.out.ok (u : Int) (v : Int)).2.1
            clear hc HC
            obtain ⟨bw', ow', ebw, hpw⟩ := (HIW.out.below HB.out).at (by omega)
            simp only [Option.some.injEq, Addr.mk.injEq] at ebw
            obtain ⟨rfl, rfl, _⟩ := ebw
            have p1 := hpw i1 (by omega)
            rw [HEU.out] at p1
            clear hpw
            have hbu : bf P (u : Int) = 0 := bf_of HO.out (by omega)
            obtain ⟨wk, hwk⟩ : ∃ wk, wk = wr := ⟨_, rfl⟩
            subst hwk
            have C3 := hidden (kids_calls ap m cp P (u : Int) wk (HI1b.out.below HB.out))
            rw [hbu, errv_zero] at C3
            have hKl := kl_len P (u : Int)
            have hin : (v : Int) ∈ kl P (u : Int) := by
              unfold kl
              rw [if_pos hbu]
              exact kd_mem (by omega) HPV.out
            have HIN : Hid ((kl P (u : Int)).any (fun z => z == (v : Int)) = true) := hidden (List.any_eq_true.2 ⟨_, hin, by simp⟩)
            clear hin hbu
            generalize kl P (u : Int) = K at *
            go_wp2_with fail
            refine C3.out.mono ?_
            rintro e w3 ⟨vk, rfl, ho, hb⟩
            have HB3 : Hid (Below w2.heap.size w2 w3) := HB.out.trans (hb.mono HB.out.size)
            obtain ⟨ak, ck, rfl, hIK, _, _, _⟩ := own_ints ho (by omega)
            have HIK := hidden hIK
            have HK0 : Hid ((K.take 0).any (fun z => z == (v : Int)) = false) := by simp [Hid]
            clear ho hb hIK C3 p1
            go_wp2_with fail
            go_loopg [20, 21] K.length (fun g p q wq => ∃ (t : Nat) (tb : Bool), t + g = K.length ∧ p = .bool tb ∧ q = .int .i64 (t : Int) ∧ Hid ((K.take t).any (fun z => z == (v : Int)) = tb) ∧ Hid (Below w2.heap.size w2 wq) ∧ Hid (IArg wq ak K.length K))
            case atStart => exact ⟨0, false, by omega, rfl, rfl, HK0, HB3, HIK⟩
            case round =>
              obtain ⟨t, tb, htg, rfl, rfl, HT, HB4, HI4⟩ := hrel
              by_cases ht : t < K.length
              · have htz : (t : Int) < (K.length : Int) := by omega
                obtain ⟨b, o, rfl, hcs⟩ := HI4.out.at (by omega)
                have c0 := hcs t ht
                have hta := any_take (v : Int) ht
                rw [HT.out] at hta
                obtain ⟨bw', ow', ebw, hpw⟩ := (HIW.out.below HB4.out).at (by omega)
                simp only [Option.some.injEq, Addr.mk.injEq] at ebw
                obtain ⟨rfl, rfl, _⟩ := ebw
                have p2 := hpw i hi
                rw [HEV.out] at p2
                clear hpw hcs
                generalize dg K t = kz at *
                cases tb with
                | true =>
                  have HT1 : Hid ((K.take (t + 1)).any (fun z => z == (v : Int)) = true) := by rw [hta]; exact hidden rfl
                  clear hta
                  go_wp2_with fail
                  go_quiet (fail)
                  go_wp2_with fail
                  go_roundg (K.length - (t + 1))
                  case measure => omega
                  case rel => exact ⟨t + 1, true, by omega, rfl, by go_num, HT1, hidden (below_drewN' HB4.out _), hidden (HI4.out.below (below_drewN' (Below.refl _ _) _))⟩
                | false =>
                  rw [Bool.false_or] at hta
                  by_cases hkz : kz = v
                  · have e1 : (kz == (v : Int)) = true := by simpa using hkz
                    have HT1 : Hid ((K.take (t + 1)).any (fun z => z == (v : Int)) = true) := by rw [hta, e1]; exact hidden rfl
                    clear hta hkz
                    go_wp2_with fail
                    go_quiet (fail)
                    go_wp2_with fail
                    go_roundg (K.length - (t + 1))
                    case measure => omega
                    case rel => exact ⟨t + 1, true, by omega, rfl, by go_num, HT1, hidden (below_drewN' HB4.out _), hidden (HI4.out.below (below_drewN' (Below.refl _ _) _))⟩
                  · have e1 : (kz == (v : Int)) = false := by simpa using hkz
                    have HT1 : Hid ((K.take (t + 1)).any (fun z => z == (v : Int)) = false) := by rw [hta, e1]; exact hidden rfl
                    clear hta hkz
                    go_wp2_with fail
                    go_quiet (fail)
                    go_wp2_with fail
                    go_roundg (K.length - (t + 1))
                    case measure => omega
                    case rel => exact ⟨t + 1, false, by omega, rfl, by go_num, HT1, hidden (below_drewN' HB4.out _), hidden (HI4.out.below (below_drewN' (Below.refl _ _) _))⟩
              · have htz : ¬ (t : Int) < (K.length : Int) := by omega
                have htt := HT.out
                rw [List.take_of_length_le (by omega), HIN.out] at htt
                subst htt
                have hws : IntKind.i64.wrap (s + c) = s + c := wrap_id (by omega) (by omega)
                have HS1 : Hid (s + c = dg D (dg W (i + 1 - 1)).toNat) := by rw [Nat.add_sub_cancel, HEV.out, Int.toNat_natCast]; exact HV2
                go_wp2_with fail
                go_roundg (W.length - (i + 1))
                case measure => omega
                case rel => exact ⟨i + 1, s + c, by omega, by omega, by omega, rfl, by go_num, HS1, HB4⟩
      · have hiz : ¬ (i : Int) < (W.length : Int) := by omega
        obtain rfl : i = W.length := by omega
        have hs := HS.out
        rw [HWW.out.last, Int.toNat_natCast] at hs
        obtain ⟨bd', od', ebd, hpd⟩ := (HI2b.out.below HB.out).at (by omega)
        simp only [Option.some.injEq, Addr.mk.injEq] at ebd
        obtain ⟨rfl, rfl, _⟩ := ebd
        have p1 := hpd node hnode
        obtain ⟨bw', ow', ebw, hpw⟩ := (HIW.out.below HB.out).at (by omega)
        simp only [Option.some.injEq, Addr.mk.injEq] at ebw
        obtain ⟨rfl, rfl, _⟩ := ebw
        have p2 := hpw 0 (by omega)
        rw [HRT.out, Nat.add_zero] at p2
        rw [← hs] at p1
        have hnz : (node : Int) < (m : Int) := by omega
        have hwz : (0 : Int) < (W.length : Int) := by omega
        have HBF : Hid (Below w.heap.size w wr) := HB0.out.trans (HB.out.mono HB0.out.size)
        clear hs hpd hpw HS hneg
        go_wp2_with fail
        go_ret
        exact ⟨rfl, HBF.out⟩
  · rw [errv_pos h0]
    have HW := hidden hQ.bel
    clear hQ HQ
    go_wp2_with fail
    go_ret
    exact ⟨rfl, HW.out⟩
end Go.Proofs.Ytafokjafbdgagag.Adds
