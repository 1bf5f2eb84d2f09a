/-
  The walk of the Go function ViewOnce: it returns true at any three views. It changes nothing that was there.
-/
import Derived.Test.YtlahlgoknolniafViewF
namespace Go.Proofs.Ytlahlgoknolniaf.VOnce
open Go.ChangeShapes Go.WideShapes Go.ChangeAt Go.RowKit Go.Proofs.Ytlahlgoknolniaf.Mem Go.Proofs.Ytlahlgoknolniaf.VM Go.Proofs.Ytlahlgoknolniaf.View
set_option linter.unusedVariables false

theorem first (w : World) : Calls Try.prog 10 #[.slice none 0 0, .int .i64 3, .bool true] w fun e w' => ∃ b o c, e = .returned (.tuple #[.slice (some ⟨b, o, none⟩) 1 c, .nilIface]) ∧ w'.cell? ⟨b, o, none⟩ = some (.int .i64 3) ∧ w'.cell? ⟨b, o + 1, none⟩ = some (.int .i64 1) ∧ 1 ≤ c ∧ Below w.heap.size w w' := by
  have h := bump_calls none 0 0 [] 3 true w (MArg.nil _ _) (fun _ => ⟨rfl, rfl⟩)
  have e1 : bf [] 3 = 0 := by decide
  have e2 : bmp [] 3 true = [⟨3, 1, true⟩] := by unfold bmp; rw [if_pos e1]; rfl
  rw [e1, e2, errv_zero] at h
  refine h.mono ?_
  rintro e w' ⟨a', q, c', rfl, hM, hc, _, hb⟩
  obtain rfl : 1 = q := hM.2.1
  obtain ⟨b, o, rfl, _, hcs⟩ := hM.at (by omega)
  obtain ⟨g0, g1, _⟩ := hcs 0 (by omega)
  exact ⟨b, o, c', rfl, g0, g1, hc, hb⟩
/-- merged, whatever they are -/
theorem merges (a : Option Addr) (n cap : Nat) (A : List Mb) (p : Option Addr) (k cp : Nat) (B R : List Mb) (w : World) (hA : MArg w a n A) (hnA : a = none → n = 0 ∧ cap = 0) (hB : MArg w p k B) (fA : Fit A) (fB : Fit B) (hR : mrg A B = R) :
    Calls Try.prog 11 #[.slice a n cap, .slice p k cp] w fun e w' => ∃ a' c', e = .returned (.tuple #[.slice a' R.length c', .nilIface]) ∧ MArg w' a' R.length R ∧ R.length ≤ c' ∧ (a' = none → R.length = 0 ∧ c' = 0) ∧ Below w.heap.size w w' := by
  rw [← hR]
  refine (merge_good a n cap A p k cp B w hA hnA hB fA fB).mono ?_
  rintro e w' ⟨a', q, c', rfl, hM, hc, hn, hb⟩
  obtain rfl : (mrg A B).length = q := hM.2.1
  exact ⟨a', c', rfl, hM, hc, hn, hb⟩
theorem newers (a : Option Addr) (n cap : Nat) (A : List Mb) (p : Option Addr) (k cp : Nat) (B R : List Mb) (w : World) (hA : MArg w a n A) (hB : MArg w p k B) (fA : Fit A) (fB : Fit B) (hR : newer A B = R) :
    Calls Try.prog 13 #[.slice a n cap, .slice p k cp] w fun e w' => ∃ a' c', e = .returned (.tuple #[.slice a' R.length c', .nilIface]) ∧ MArg w' a' R.length R ∧ R.length ≤ c' ∧ (a' = none → R.length = 0 ∧ c' = 0) ∧ Below w.heap.size w w' := by
  rw [← hR]
  refine (newer_good a n cap A p k cp B w hA hB fA fB).mono ?_
  rintro e w' ⟨a', q, c', rfl, hM, hc, hn, hb⟩
  obtain rfl : (newer A B).length = q := hM.2.1
  exact ⟨a', c', rfl, hM, hc, hn, hb⟩

set_option maxHeartbeats 4000000 in
set_option maxRecDepth 100000 in
theorem first_bad (a : Option Addr) (n cap : Nat) (A : List Mb) (b : Option Addr) (k cb : Nat) (B : List Mb) (c : Option Addr) (l cc : Nat) (C : List Mb) (w : World) (hA : MArg w a n A) (hnA : a = none → n = 0 ∧ cap = 0) (hB : MArg w b k B) (hnB : b = none → k = 0 ∧ cb = 0) (hC : MArg w c l C) (hnC : c = none → l = 0 ∧ cc = 0) (hz : mf A B ≠ 0) :
    Calls Try.prog 4 #[.slice a n cap, .slice b k cb, .slice c l cc] w fun e w' => e = .returned (.bool true) ∧ Below w.heap.size w w' := by
  have hz2 : mf B A ≠ 0 := fun e => hz (mf_fit.2 ⟨(mf_fit.1 e).2, (mf_fit.1 e).1⟩)
  have HM : Hid (∀ W, MArg W a n A → MArg W b k B → Calls Try.prog 11 #[.slice a n cap, .slice b k cb] W fun e w' => ∃ a' q c', e = .returned (.tuple #[.slice a' q c', errv (mf A B)]) ∧ MArg w' a' q (mgd A B) ∧ q ≤ c' ∧ (a' = none → q = 0 ∧ c' = 0) ∧ Below W.heap.size W w') := fun W h1 h2 => merge_calls a n cap A b k cb B W h1 hnA h2
  have HM2 : Hid (∀ W, MArg W a n A → MArg W b k B → Calls Try.prog 11 #[.slice b k cb, .slice a n cap] W fun e w' => ∃ a' q c', e = .returned (.tuple #[.slice a' q c', errv (mf B A)]) ∧ MArg w' a' q (mgd B A) ∧ q ≤ c' ∧ (a' = none → q = 0 ∧ c' = 0) ∧ Below W.heap.size W w') := fun W h1 h2 => merge_calls b k cb B a n cap A W h2 hnB h1
  generalize mf A B = f at *
  generalize mf B A = g at *
  have hcmp := cmp_ne f
  have hgrd := grd_ne f
  have d : decide (f = 0) = false := by simpa using hz
  rw [d] at hcmp
  have hcmp2 := cmp_ne g
  have hgrd2 := grd_ne g
  have d2 : decide (g = 0) = false := by simpa using hz2
  rw [d2] at hcmp2
  generalize errv f = ev at *
  generalize errv g = ev2 at *
  clear d hz d2 hz2
  have HA0 := hidden hA
  have HB0 := hidden hB
  have HC0 := hidden hC
  clear hA hB hC
  go_enter Try.func4, Try.ntmps4
  go_wp2_with fail
  refine (first w).mono ?_
  rintro e w1 ⟨bx, ox, cx, rfl, x0, x1, xc, hb1⟩
  have HW1 := hidden hb1
  have HA1 := hidden (HA0.out.below hb1)
  have HB1 := hidden (HB0.out.below hb1)
  have HC1 := hidden (HC0.out.below hb1)
  clear hb1 HA0 HB0 HC0
  go_wp2_with fail
  refine (HM.out _ HA1.out HB1.out).mono ?_
  rintro e w2 ⟨a2, q2, c2, rfl, _, _, _, hb2⟩
  have HW2 : Hid (Below w.heap.size w w2) := HW1.out.trans (hb2.mono HW1.out.size)
  have HA2 := hidden (HA1.out.below hb2)
  have HB2 := hidden (HB1.out.below hb2)
  clear hb2
  go_wp2_with fail
  refine (HM2.out _ HA2.out HB2.out).mono ?_
  rintro e w3 ⟨a3, q3, c3, rfl, _, _, _, hb3⟩
  have HW3 : Hid (Below w.heap.size w w3) := HW2.out.trans (hb3.mono HW2.out.size)
  clear hb3
  go_wp2_with fail
  go_ret
  exact ⟨rfl, HW3.out⟩

set_option maxHeartbeats 4000000 in
set_option maxRecDepth 100000 in
theorem third_bad (a : Option Addr) (n cap : Nat) (A : List Mb) (b : Option Addr) (k cb : Nat) (B : List Mb) (c : Option Addr) (l cc : Nat) (C : List Mb) (w : World) (hA : MArg w a n A) (hnA : a = none → n = 0 ∧ cap = 0) (hB : MArg w b k B) (hnB : b = none → k = 0 ∧ cb = 0) (hC : MArg w c l C) (hnC : c = none → l = 0 ∧ cc = 0) (fA : Fit A) (fB : Fit B) (hz : vf C ≠ 0) :
    Calls Try.prog 4 #[.slice a n cap, .slice b k cb, .slice c l cc] w fun e w' => e = .returned (.bool true) ∧ Below w.heap.size w w' := by
  have fAB := fit_mrg fA fB
  have fBA := fit_mrg fB fA
  have fN := fit_newer (a := A) fB
  have eBA : mrg B A = mrg A B := (mrg_comm fA fB).symm
  have eAA : mrg (mrg A B) A = mrg A B := mrg_again fA fB
  have eAN : mrg A (newer A B) = mrg A B := mrg_newer fA fB
  obtain ⟨S, hS⟩ : ∃ S, mrg A B = S := ⟨_, rfl⟩
  obtain ⟨T, hT⟩ : ∃ T, newer A B = T := ⟨_, rfl⟩
  rw [hS] at fAB eBA eAA eAN
  rw [hT] at eAN fN
  have HS := hidden hS
  have HT := hidden hT
  have HBA := hidden eBA
  have HAA := hidden eAA
  have HAN := hidden eAN
  clear hS hT eBA eAA eAN fBA
  have em : mf B C = vf C := by unfold mf; rw [if_pos (fit_iff.2 fB)]
  have HM : Hid (∀ W, MArg W b k B → MArg W c l C → Calls Try.prog 11 #[.slice b k cb, .slice c l cc] W fun e w' => ∃ a' q c', e = .returned (.tuple #[.slice a' q c', errv (vf C)]) ∧ MArg w' a' q (mgd B C) ∧ q ≤ c' ∧ (a' = none → q = 0 ∧ c' = 0) ∧ Below W.heap.size W w') := fun W h1 h2 => by
    have := merge_calls b k cb B c l cc C W h1 hnB h2
    rw [em] at this
    exact this
  have HK : Hid (∀ W, MArg W c l C → Calls Try.prog 14 #[.slice c l cc] W fun e w' => e = .returned (errv (vf C)) ∧ Below W.heap.size W w') := fun W h => check_calls c l cc C W h
  clear em
  generalize vf C = f at *
  have hcmp := cmp_ne f
  have hgrd := grd_ne f
  have d : decide (f = 0) = false := by simpa using hz
  rw [d] at hcmp
  generalize errv f = ev at *
  clear d hz
  have HA0 := hidden hA
  have HB0 := hidden hB
  have HC0 := hidden hC
  clear hA hB hC
  go_enter Try.func4, Try.ntmps4
  go_wp2_with fail
  refine (first w).mono ?_
  rintro e w1 ⟨bx, ox, cx, rfl, x0, x1, xc, hb1⟩
  have HW1 := hidden hb1
  have HA1 := hidden (HA0.out.below hb1)
  have HB1 := hidden (HB0.out.below hb1)
  have HC1 := hidden (HC0.out.below hb1)
  clear hb1 HA0 HB0 HC0
  go_wp2_with fail
  refine (merges a n cap A b k cb B S _ HA1.out hnA HB1.out fA fB HS.out).mono ?_
  rintro e w2 ⟨ap, cp, rfl, hp, _, np, hb2⟩
  have HW2 : Hid (Below w.heap.size w w2) := HW1.out.trans (hb2.mono HW1.out.size)
  have HA2 := hidden (HA1.out.below hb2)
  have HB2 := hidden (HB1.out.below hb2)
  have HC2 := hidden (HC1.out.below hb2)
  have Hp2 := hidden hp
  have Np := hidden np
  clear hb2 HW1 HA1 HB1 HC1 hp np
  go_wp2_with fail
  refine (merges b k cb B a n cap A S _ HB2.out hnB HA2.out fB fA HBA.out).mono ?_
  rintro e w3 ⟨aq, cq, rfl, hq, _, nq, hb3⟩
  have HW3 : Hid (Below w.heap.size w w3) := HW2.out.trans (hb3.mono HW2.out.size)
  have HA3 := hidden (HA2.out.below hb3)
  have HB3 := hidden (HB2.out.below hb3)
  have HC3 := hidden (HC2.out.below hb3)
  have Hp3 := hidden (Hp2.out.below hb3)
  have Hq3 := hidden hq
  have Nq := hidden nq
  clear hb3 HW2 HA2 HB2 HC2 Hp2 hq nq
  go_wp2_with fail
  refine (mbrs_same ap aq S.length cp cq S _ Hp3.out Hq3.out).mono ?_
  rintro e w4 ⟨rfl, hb4⟩
  have HW4 : Hid (Below w.heap.size w w4) := HW3.out.trans (hb4.mono HW3.out.size)
  have HA4 := hidden (HA3.out.below hb4)
  have HB4 := hidden (HB3.out.below hb4)
  have HC4 := hidden (HC3.out.below hb4)
  have Hp4 := hidden (Hp3.out.below hb4)
  clear hb4 HW3 HA3 HB3 HC3 Hp3 Hq3
  go_wp2_with fail
  refine (merges ap S.length cp S a n cap A S _ Hp4.out Np.out HA4.out fAB fA HAA.out).mono ?_
  rintro e w5 ⟨ar, cr, rfl, hr, _, nr, hb5⟩
  have HW5 : Hid (Below w.heap.size w w5) := HW4.out.trans (hb5.mono HW4.out.size)
  have HA5 := hidden (HA4.out.below hb5)
  have HB5 := hidden (HB4.out.below hb5)
  have HC5 := hidden (HC4.out.below hb5)
  have Hp5 := hidden (Hp4.out.below hb5)
  have Hr5 := hidden hr
  have Nr := hidden nr
  clear hb5 HW4 HA4 HB4 HC4 Hp4 hr nr
  go_wp2_with fail
  refine (mbrs_same ar ap S.length cr cp S _ Hr5.out Hp5.out).mono ?_
  rintro e w6 ⟨rfl, hb6⟩
  have HW6 : Hid (Below w.heap.size w w6) := HW5.out.trans (hb6.mono HW5.out.size)
  have HA6 := hidden (HA5.out.below hb6)
  have HB6 := hidden (HB5.out.below hb6)
  have HC6 := hidden (HC5.out.below hb6)
  have Hp6 := hidden (Hp5.out.below hb6)
  clear hb6 HW5 HA5 HB5 HC5 Hp5 Hr5
  go_wp2_with fail
  refine (newers a n cap A b k cb B T _ HA6.out HB6.out fA fB HT.out).mono ?_
  rintro e w7 ⟨ad, cd, rfl, hd, _, nd, hb7⟩
  have HW7 : Hid (Below w.heap.size w w7) := HW6.out.trans (hb7.mono HW6.out.size)
  have HA7 := hidden (HA6.out.below hb7)
  have HB7 := hidden (HB6.out.below hb7)
  have HC7 := hidden (HC6.out.below hb7)
  have Hp7 := hidden (Hp6.out.below hb7)
  have Hd7 := hidden hd
  have Nd := hidden nd
  clear hb7 HW6 HA6 HB6 HC6 Hp6 hd nd
  go_wp2_with fail
  refine (merges a n cap A ad T.length cd T S _ HA7.out hnA Hd7.out fA fN HAN.out).mono ?_
  rintro e w8 ⟨av, cv, rfl, hv, _, nv, hb8⟩
  have HW8 : Hid (Below w.heap.size w w8) := HW7.out.trans (hb8.mono HW7.out.size)
  have HA8 := hidden (HA7.out.below hb8)
  have HB8 := hidden (HB7.out.below hb8)
  have HC8 := hidden (HC7.out.below hb8)
  have Hp8 := hidden (Hp7.out.below hb8)
  have Hd8 := hidden (Hd7.out.below hb8)
  have Hv8 := hidden hv
  have Nv := hidden nv
  clear hb8 HW7 HA7 HB7 HC7 Hp7 Hd7 hv nv
  go_wp2_with fail
  refine (mbrs_same av ap S.length cv cp S _ Hv8.out Hp8.out).mono ?_
  rintro e w9 ⟨rfl, hb9⟩
  have HW9 : Hid (Below w.heap.size w w9) := HW8.out.trans (hb9.mono HW8.out.size)
  have HA9 := hidden (HA8.out.below hb9)
  have HB9 := hidden (HB8.out.below hb9)
  have HC9 := hidden (HC8.out.below hb9)
  have Hp9 := hidden (Hp8.out.below hb9)
  clear hb9 HW8 HA8 HB8 HC8 Hp8 Hd8 Hv8
  go_wp2_with fail
  refine (HM.out _ HB9.out HC9.out).mono ?_
  rintro e w10 ⟨ax, qx, dx, rfl, _, _, _, hb10⟩
  have HW10 : Hid (Below w.heap.size w w10) := HW9.out.trans (hb10.mono HW9.out.size)
  have HC10 := hidden (HC9.out.below hb10)
  clear hb10
  go_wp2_with fail
  refine (HK.out _ HC10.out).mono ?_
  rintro e w11 ⟨rfl, hb11⟩
  have HW11 : Hid (Below w.heap.size w w11) := HW10.out.trans (hb11.mono HW10.out.size)
  clear hb11
  go_wp2_with fail
  go_ret
  exact ⟨rfl, HW11.out⟩

set_option maxHeartbeats 4000000 in
set_option maxRecDepth 100000 in
theorem all_good (a : Option Addr) (n cap : Nat) (A : List Mb) (b : Option Addr) (k cb : Nat) (B : List Mb) (c : Option Addr) (l cc : Nat) (C : List Mb) (w : World) (hA : MArg w a n A) (hnA : a = none → n = 0 ∧ cap = 0) (hB : MArg w b k B) (hnB : b = none → k = 0 ∧ cb = 0) (hC : MArg w c l C) (hnC : c = none → l = 0 ∧ cc = 0) (fA : Fit A) (fB : Fit B) (fC : Fit C) :
    Calls Try.prog 4 #[.slice a n cap, .slice b k cb, .slice c l cc] w fun e w' => e = .returned (.bool true) ∧ Below w.heap.size w w' := by
  have fAB := fit_mrg fA fB
  have fBA := fit_mrg fB fA
  have fN := fit_newer (a := A) fB
  have eBA : mrg B A = mrg A B := (mrg_comm fA fB).symm
  have eAA : mrg (mrg A B) A = mrg A B := mrg_again fA fB
  have eAN : mrg A (newer A B) = mrg A B := mrg_newer fA fB
  have fU := fit_mrg fB fC
  have eV : mrg A (mrg B C) = mrg (mrg A B) C := (mrg_assoc fA fB fC).symm
  obtain ⟨S, hS⟩ : ∃ S, mrg A B = S := ⟨_, rfl⟩
  obtain ⟨T, hT⟩ : ∃ T, newer A B = T := ⟨_, rfl⟩
  rw [hS] at fAB eBA eAA eAN
  rw [hS] at eV
  rw [hT] at eAN fN
  have HS := hidden hS
  have HT := hidden hT
  have HBA := hidden eBA
  have HAA := hidden eAA
  have HAN := hidden eAN
  clear hS hT eBA eAA eAN fBA
  obtain ⟨U, hU⟩ : ∃ U, mrg B C = U := ⟨_, rfl⟩
  obtain ⟨V, hV⟩ : ∃ V, mrg S C = V := ⟨_, rfl⟩
  rw [hU] at fU eV
  rw [hV] at eV
  have HU := hidden hU
  have HV := hidden hV
  have HAU := hidden eV
  clear hU hV eV
  have HA0 := hidden hA
  have HB0 := hidden hB
  have HC0 := hidden hC
  clear hA hB hC
  go_enter Try.func4, Try.ntmps4
  go_wp2_with fail
  refine (first w).mono ?_
  rintro e w1 ⟨bx, ox, cw, rfl, x0, x1, xc, hb1⟩
  have HW1 := hidden hb1
  have HA1 := hidden (HA0.out.below hb1)
  have HB1 := hidden (HB0.out.below hb1)
  have HC1 := hidden (HC0.out.below hb1)
  clear hb1 HA0 HB0 HC0
  go_wp2_with fail
  refine (merges a n cap A b k cb B S _ HA1.out hnA HB1.out fA fB HS.out).mono ?_
  rintro e w2 ⟨ap, cp, rfl, hp, _, np, hb2⟩
  have HW2 : Hid (Below w.heap.size w w2) := HW1.out.trans (hb2.mono HW1.out.size)
  have HA2 := hidden (HA1.out.below hb2)
  have HB2 := hidden (HB1.out.below hb2)
  have HC2 := hidden (HC1.out.below hb2)
  have Hp2 := hidden hp
  have Np := hidden np
  clear hb2 HW1 HA1 HB1 HC1 hp np
  go_wp2_with fail
  refine (merges b k cb B a n cap A S _ HB2.out hnB HA2.out fB fA HBA.out).mono ?_
  rintro e w3 ⟨aq, cq, rfl, hq, _, nq, hb3⟩
  have HW3 : Hid (Below w.heap.size w w3) := HW2.out.trans (hb3.mono HW2.out.size)
  have HA3 := hidden (HA2.out.below hb3)
  have HB3 := hidden (HB2.out.below hb3)
  have HC3 := hidden (HC2.out.below hb3)
  have Hp3 := hidden (Hp2.out.below hb3)
  have Hq3 := hidden hq
  have Nq := hidden nq
  clear hb3 HW2 HA2 HB2 HC2 Hp2 hq nq
  go_wp2_with fail
  refine (mbrs_same ap aq S.length cp cq S _ Hp3.out Hq3.out).mono ?_
  rintro e w4 ⟨rfl, hb4⟩
  have HW4 : Hid (Below w.heap.size w w4) := HW3.out.trans (hb4.mono HW3.out.size)
  have HA4 := hidden (HA3.out.below hb4)
  have HB4 := hidden (HB3.out.below hb4)
  have HC4 := hidden (HC3.out.below hb4)
  have Hp4 := hidden (Hp3.out.below hb4)
  clear hb4 HW3 HA3 HB3 HC3 Hp3 Hq3
  go_wp2_with fail
  refine (merges ap S.length cp S a n cap A S _ Hp4.out Np.out HA4.out fAB fA HAA.out).mono ?_
  rintro e w5 ⟨ar, cr, rfl, hr, _, nr, hb5⟩
  have HW5 : Hid (Below w.heap.size w w5) := HW4.out.trans (hb5.mono HW4.out.size)
  have HA5 := hidden (HA4.out.below hb5)
  have HB5 := hidden (HB4.out.below hb5)
  have HC5 := hidden (HC4.out.below hb5)
  have Hp5 := hidden (Hp4.out.below hb5)
  have Hr5 := hidden hr
  have Nr := hidden nr
  clear hb5 HW4 HA4 HB4 HC4 Hp4 hr nr
  go_wp2_with fail
  refine (mbrs_same ar ap S.length cr cp S _ Hr5.out Hp5.out).mono ?_
  rintro e w6 ⟨rfl, hb6⟩
  have HW6 : Hid (Below w.heap.size w w6) := HW5.out.trans (hb6.mono HW5.out.size)
  have HA6 := hidden (HA5.out.below hb6)
  have HB6 := hidden (HB5.out.below hb6)
  have HC6 := hidden (HC5.out.below hb6)
  have Hp6 := hidden (Hp5.out.below hb6)
  clear hb6 HW5 HA5 HB5 HC5 Hp5 Hr5
  go_wp2_with fail
  refine (newers a n cap A b k cb B T _ HA6.out HB6.out fA fB HT.out).mono ?_
  rintro e w7 ⟨ad, cd, rfl, hd, _, nd, hb7⟩
  have HW7 : Hid (Below w.heap.size w w7) := HW6.out.trans (hb7.mono HW6.out.size)
  have HA7 := hidden (HA6.out.below hb7)
  have HB7 := hidden (HB6.out.below hb7)
  have HC7 := hidden (HC6.out.below hb7)
  have Hp7 := hidden (Hp6.out.below hb7)
  have Hd7 := hidden hd
  have Nd := hidden nd
  clear hb7 HW6 HA6 HB6 HC6 Hp6 hd nd
  go_wp2_with fail
  refine (merges a n cap A ad T.length cd T S _ HA7.out hnA Hd7.out fA fN HAN.out).mono ?_
  rintro e w8 ⟨av, cv, rfl, hv, _, nv, hb8⟩
  have HW8 : Hid (Below w.heap.size w w8) := HW7.out.trans (hb8.mono HW7.out.size)
  have HA8 := hidden (HA7.out.below hb8)
  have HB8 := hidden (HB7.out.below hb8)
  have HC8 := hidden (HC7.out.below hb8)
  have Hp8 := hidden (Hp7.out.below hb8)
  have Hd8 := hidden (Hd7.out.below hb8)
  have Hv8 := hidden hv
  have Nv := hidden nv
  clear hb8 HW7 HA7 HB7 HC7 Hp7 Hd7 hv nv
  go_wp2_with fail
  refine (mbrs_same av ap S.length cv cp S _ Hv8.out Hp8.out).mono ?_
  rintro e w9 ⟨rfl, hb9⟩
  have HW9 : Hid (Below w.heap.size w w9) := HW8.out.trans (hb9.mono HW8.out.size)
  have HA9 := hidden (HA8.out.below hb9)
  have HB9 := hidden (HB8.out.below hb9)
  have HC9 := hidden (HC8.out.below hb9)
  have Hp9 := hidden (Hp8.out.below hb9)
  clear hb9 HW8 HA8 HB8 HC8 Hp8 Hd8 Hv8
  go_wp2_with fail
  refine (merges b k cb B c l cc C U _ HB9.out hnB HC9.out fB fC HU.out).mono ?_
  rintro e w10 ⟨ax, cx, rfl, hx, _, nx, hb10⟩
  have HW10 : Hid (Below w.heap.size w w10) := HW9.out.trans (hb10.mono HW9.out.size)
  have HA10 := hidden (HA9.out.below hb10)
  have HB10 := hidden (HB9.out.below hb10)
  have HC10 := hidden (HC9.out.below hb10)
  have Hp10 := hidden (Hp9.out.below hb10)
  have Hx10 := hidden hx
  have Nx := hidden nx
  clear hb10 HW9 HA9 HB9 HC9 Hp9 hx nx
  go_wp2_with fail
  refine (merges ap S.length cp S c l cc C V _ Hp10.out Np.out HC10.out fAB fC HV.out).mono ?_
  rintro e w11 ⟨ay, cy, rfl, hy, _, ny, hb11⟩
  have HW11 : Hid (Below w.heap.size w w11) := HW10.out.trans (hb11.mono HW10.out.size)
  have HA11 := hidden (HA10.out.below hb11)
  have HB11 := hidden (HB10.out.below hb11)
  have HC11 := hidden (HC10.out.below hb11)
  have Hp11 := hidden (Hp10.out.below hb11)
  have Hx11 := hidden (Hx10.out.below hb11)
  have Hy11 := hidden hy
  have Ny := hidden ny
  clear hb11 HW10 HA10 HB10 HC10 Hp10 Hx10 hy ny
  go_wp2_with fail
  refine (merges a n cap A ax U.length cx U V _ HA11.out hnA Hx11.out fA fU HAU.out).mono ?_
  rintro e w12 ⟨az, cz, rfl, hz, _, nz, hb12⟩
  have HW12 : Hid (Below w.heap.size w w12) := HW11.out.trans (hb12.mono HW11.out.size)
  have HA12 := hidden (HA11.out.below hb12)
  have HB12 := hidden (HB11.out.below hb12)
  have HC12 := hidden (HC11.out.below hb12)
  have Hp12 := hidden (Hp11.out.below hb12)
  have Hx12 := hidden (Hx11.out.below hb12)
  have Hy12 := hidden (Hy11.out.below hb12)
  have Hz12 := hidden hz
  have Nz := hidden nz
  clear hb12 HW11 HA11 HB11 HC11 Hp11 Hx11 Hy11 hz nz
  go_wp2_with fail
  refine (mbrs_same ay az V.length cy cz V _ Hy12.out Hz12.out).mono ?_
  rintro e w13 ⟨rfl, hb13⟩
  have HW13 : Hid (Below w.heap.size w w13) := HW12.out.trans (hb13.mono HW12.out.size)
  clear hb13 HW12 HA12 HB12 HC12 Hp12 Hx12 Hy12 Hz12
  go_wp2_with fail
  go_ret
  exact ⟨rfl, HW13.out⟩

theorem walk (a : Option Addr) (n cap : Nat) (A : List Mb) (b : Option Addr) (k cb : Nat) (B : List Mb) (c : Option Addr) (l cc : Nat) (C : List Mb) (w : World) (hA : MArg w a n A) (hnA : a = none → n = 0 ∧ cap = 0) (hB : MArg w b k B) (hnB : b = none → k = 0 ∧ cb = 0) (hC : MArg w c l C) (hnC : c = none → l = 0 ∧ cc = 0) :
    Calls Try.prog 4 #[.slice a n cap, .slice b k cb, .slice c l cc] w fun e w' => e = .returned (.bool true) ∧ Below w.heap.size w w' := by
  by_cases hz : mf A B = 0
  · obtain ⟨fA, fB⟩ := mf_fit.1 hz
    by_cases h3 : vf C = 0
    · exact all_good a n cap A b k cb B c l cc C w hA hnA hB hnB hC hnC fA fB (fit_iff.1 h3)
    · exact third_bad a n cap A b k cb B c l cc C w hA hnA hB hnB hC hnC fA fB h3
  · exact first_bad a n cap A b k cb B c l cc C w hA hnA hB hnB hC hnC hz
end Go.Proofs.Ytlahlgoknolniaf.VOnce
