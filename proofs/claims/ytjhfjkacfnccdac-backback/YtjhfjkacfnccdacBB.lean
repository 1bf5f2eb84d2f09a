/-
  The walk of the Go function BackBack: it returns true at any numbers, anything that is said back, and any bytes. It changes nothing that was there.
-/
import Derived.Test.YtjhfjkacfnccdacBackM
import Derived.Test.YtjhfjkacfnccdacRSorted
namespace Go.Proofs.Ytjhfjkacfnccdac.Back
open Go.ChangeShapes Go.WideShapes Go.ChangeAt Go.RowKit Go.Sort Go.Lib Go.Proofs.Ytjhfjkacfnccdac.BM Go.Proofs.Ytjhfjkacfnccdac.Mem
set_option linter.unusedVariables false

theorem str_conv {w : World} {a : Option Addr} {n cap : Nat} {L : List Nat} (h : Arg w a n L) : (convert 25 9 (.slice a n cap)).run Try.prog w = .ok (.string (str L)) w := by
  cases L with
  | cons c L =>
    obtain ⟨b, o, e, _⟩ := h.1.2 0 (by simp)
    exact conv_arg Try.underlying25 Try.underlying5 Try.underlying9 h (fun ad h => by rw [e] at h; exact ⟨b, o, (Option.some.inj h).symm⟩)
  | nil =>
    have hn : n = 0 := by have := h.2.1; simpa using this.symm
    subst hn
    cases a with
    | none => exact conv_arg Try.underlying25 Try.underlying5 Try.underlying9 h (fun ad h => by simp at h)
    | some ad =>
      rw [run_convert_bytes_string w 25 9 5 _ 0 cap Try.underlying25 Try.underlying5 Try.underlying9]
      have hl : (loadCells ad 0).run Try.prog w = .ok #[] w := run_loadCells_list (P := Try.prog) w ad [] (fun j v hj => by simp at hj)
      simp [Conv.bytesToString, str, strOfNums, hl]
      rfl
set_option maxHeartbeats 1000000 in
set_option maxRecDepth 100000 in
theorem same_bk (k t u : Int) (a b : Option Addr) (n cap cap' : Nat) (L : List Int) (w : World) (hA : IArg w a n L) (hB : IArg w b n L) :
    Calls Try.prog 13 #[.agg #[.int .i64 k, .int .i64 t, .slice a n cap, .int .i64 u], .agg #[.int .i64 k, .int .i64 t, .slice b n cap', .int .i64 u]] w fun e w' => e = .returned (.bool true) ∧ Below w.heap.size w w' := by
  have hbb : ∀ O1 O2, Below w.heap.size w ((w.alloc O1).alloc O2) := fun O1 O2 => ((Below.refl _ _).alloc (Nat.le_refl _) _).alloc (by simp) _
  have HI : Hid (∀ W, Below w.heap.size w W → Calls Try.prog _ #[.slice a n cap, .slice b n cap'] W _) := fun W hW => ints_same a b n cap cap' L W (hA.below hW) (hB.below hW)
  have HBB := hidden hbb
  clear hA hB hbb
  go_enter Try.func13, Try.ntmps13
  go_wp2_with fail
  refine (HI.out _ (HBB.out _ _)).mono ?_
  rintro e w1 ⟨rfl, hb1⟩
  have HX1 : Hid (BBox w1 w.heap.size k t (.slice a n cap) u) := ((BBox.new w k t (.slice a n cap) u).alloc _).below hb1 (by simp; omega)
  have HX2 : Hid (BBox w1 (w.heap.size + 1) k t (.slice b n cap') u) := by
    have h0 : BBox ((w.alloc (.cells #[.int .i64 k, .int .i64 t, .slice a n cap, .int .i64 u] 24)).alloc (.cells #[.int .i64 k, .int .i64 t, .slice b n cap', .int .i64 u] 24)) (w.heap.size + 1) k t (.slice b n cap') u := by
      have := BBox.new (w.alloc (.cells #[.int .i64 k, .int .i64 t, .slice a n cap, .int .i64 u] 24)) k t (.slice b n cap') u
      simpa using this
    exact h0.below hb1 (by simp)
  have HB1 : Hid (Below w.heap.size w w1) := (HBB.out _ _).trans (hb1.mono (by simp; omega))
  clear hb1
  obtain ⟨c0, c1, c2, c3⟩ := HX1.out.cells
  obtain ⟨d0, d1, d2, d3⟩ := HX2.out.cells
  go_wp2_with fail
  go_ret
  exact ⟨by simp, HB1.out⟩
theorem fact_fault : pfault [5, 6, 22, 4] = 0 := by decide
theorem fact_prs : pr (prsOf [5, 6, 22, 4]) = [(4, 3), (22, 0)] := by
  have h : norm [5, 6, 22, 4] = [4, 5, 6, 22] := norm_eq (by simp [Rises]) (fun x => by simp; omega)
  rw [prsOf, if_pos fact_fault, h]
  rfl
end Go.Proofs.Ytjhfjkacfnccdac.Back
namespace Go.Proofs.Ytjhfjkacfnccdac.BB
open Go.ChangeShapes Go.WideShapes Go.ChangeAt Go.RowKit Go.Sort Go.Lib Go.Proofs.Ytjhfjkacfnccdac.BM Go.Proofs.Ytjhfjkacfnccdac.Mem Go.Proofs.Ytjhfjkacfnccdac.Back

theorem four_own (w : World) : IArg (w.alloc (.cells #[.int .i64 5, .int .i64 6, .int .i64 22, .int .i64 4] 3)) (some ⟨w.heap.size, 0, none⟩) 4 [5, 6, 22, 4] := by
  refine ⟨fun j hj => ⟨w.heap.size, 0, rfl, ?_⟩, rfl, by omega⟩
  rw [World.cell?_alloc_mark]
  match j, hj with
  | 0, _ => rfl
  | 1, _ => rfl
  | 2, _ => rfl
  | 3, _ => rfl
set_option maxHeartbeats 4000000 in
set_option maxRecDepth 100000 in
theorem walk (a0 : Option Addr) (n0 cap0 : Nat) (L : List Int) (k t : Int) (a1 : Option Addr) (n1 cap1 : Nat) (L1 : List Int) (u : Int) (a2 : Option Addr) (n2 cap2 : Nat) (B : List Nat) (w : World)
    (h0 : IArg w a0 n0 L) (hn0 : a0 = none → n0 = 0 ∧ cap0 = 0) (h1 : IArg w a1 n1 L1) (hn1 : a1 = none → n1 = 0 ∧ cap1 = 0) (h2 : Arg w a2 n2 B) (hc2 : n2 ≤ cap2) :
    Calls Try.prog 3 #[.slice a0 n0 cap0, .agg #[.int .i64 k, .int .i64 t, .slice a1 n1 cap1, .int .i64 u], .slice a2 n2 cap2] w fun e w' => e = .returned (.bool true) ∧ Below w.heap.size w w' := by
  have HB0 : Hid (Below w.heap.size w (w.alloc (.cells #[.int .i64 k, .int .i64 t, .slice a1 n1 cap1, .int .i64 u] 24))) := (Below.refl _ _).alloc (Nat.le_refl _) _
  have HX0 := hidden (BBox.new w k t (.slice a1 n1 cap1) u)
  have HP1 : Hid (∀ W a n c, IArg W a n [5, 6, 22, 4] → (a = none → n = 0 ∧ c = 0) → Calls Try.prog _ #[.slice a n c] W _) := fun W a n c h hn => pairs_gen a n c _ W h hn
  rw [fact_fault, fact_prs] at HP1
  have HPG := hidden (fun W hW => pairs_gen a0 n0 cap0 L W (IArg.below h0 hW) hn0)
  have HI0 := hidden h0
  have HI1 := hidden h1
  have HN1 := hidden hn1
  have HA2 := hidden h2
  have hlen0 := h0.2.1
  have HBK : Hid (pfault L = 0 → nfault (pr (prsOf L)) = 0 ∧ numsOf (pr (prsOf L)) = norm L ∧ (prsOf L).length ≤ n0 ∧ n0 ≤ 200 ∧ (norm L).length ≤ 200 ∧ (∀ j, j < (prsOf L).length → 0 ≤ ((pr (prsOf L)).getD j (0, 0)).1 ∧ ((pr (prsOf L)).getD j (0, 0)).1 ≤ 65535) ∧
      ∀ j, j + 1 < (prsOf L).length → ((pr (prsOf L)).getD j (0, 0)).1 + 16 < ((pr (prsOf L)).getD (j + 1) (0, 0)).1) := fun hz => by
    obtain ⟨b1, b2, b3, b4, b5, hfit⟩ := back_again hz
    obtain ⟨l1, l2⟩ := pfault_zero hz
    have hnl := norm_len L
    have hg : ∀ j (hj : j < (prsOf L).length), ((pr (prsOf L)).getD j (0, 0)).1 = ((prsOf L)[j]'hj).1 := fun j hj => by
      rw [List.getD_eq_getElem?_getD, pr, List.getElem?_map, List.getElem?_eq_getElem hj]; rfl
    refine ⟨b1, b2, by omega, by omega, by omega, fun j hj => ?_, fun j hj => ?_⟩
    · rw [hg j hj]
      exact l2 _ (((norm_of L).2 _).1 (hfit.base _ (List.getElem_mem hj)))
    · rw [hg j (by omega), hg (j + 1) hj]
      exact hfit.apart j _ _ (List.getElem?_eq_getElem (by omega)) (List.getElem?_eq_getElem hj)
  have ceq1 := cmp_eq (pfault L)
  have geq1 := grd_eq (pfault L)
  have ceq2 := cmp_eq (efault k t L1 u)
  have geq2 := grd_eq (efault k t L1 u)
  have cne3 := cmp_ne (rfault B)
  have gne3 := grd_ne (rfault B)
  have HEN := hidden (fun W hW => encode_gen k t a1 n1 cap1 u L1 W (IArg.below h1 hW) hn1)
  have HAG : Hid (efault k t L1 u = 0 → ∃ (k' t' : Nat) (r : List Nat), k = k' ∧ t = t' ∧ encB k t L1 u = k' :: t' :: r ∧ rshort (k' :: t' :: r) = false ∧ sfault k' t' r = 0 ∧ saidL k' r = L1 ∧ (saidU k' r : Int) = u) := fun hz => by
    rw [encB, if_pos hz]; exact again hz
  have HRD := hidden (fun W hW => read_gen a2 n2 cap2 B W (Arg.below h2 hW) hc2)
  have HCV : Hid (∀ W c (a : Option Addr) n (C : List Nat), Arg W a n C → (convert 25 9 (.slice a n c)).run Try.prog W = .ok (.string (str C)) W) := fun W c a n C h => str_conv h
  have HSO : Hid (∀ W, Below w.heap.size w W → n0 ≤ 200 → Calls Try.prog _ #[.slice a0 n0 cap0] W _) := fun W hW hn => sorted_calls a0 n0 cap0 L W (HI0.out.below hW) (by omega)
  clear h0 hn0 h1 hn1 h2
  generalize prsOf L = l1 at *
  generalize norm L = NL at *
  generalize pfault L = f1 at *
  generalize encB k t L1 u = EB at *
  generalize efault k t L1 u = f2 at *
  obtain ⟨z1, hz1⟩ : ∃ z, decide (f1 = 0) = z := ⟨_, rfl⟩
  rw [hz1] at ceq1
  have HZ1 := hidden hz1
  obtain ⟨z2, hz2⟩ : ∃ z, decide (f2 = 0) = z := ⟨_, rfl⟩
  rw [hz2] at ceq2
  have HZ2 := hidden hz2
  obtain ⟨z3, hz3⟩ : ∃ z, decide (rfault B = 0) = z := ⟨_, rfl⟩
  rw [hz3] at cne3
  have HZ3 := hidden hz3
  clear hz1 hz2 hz3
  go_enter Try.func3, Try.ntmps3
  go_wp2_with fail
  refine (HP1.out _ _ _ _ (by have := four_own (w.alloc (.cells #[.int .i64 k, .int .i64 t, .slice a1 n1 cap1, .int .i64 u] 24)); simpa using this) (fun e => by simp at e)).mono ?_
  rintro e w1 ⟨af, mf, cf, rfl, hPf, _, _, hb1⟩
  obtain rfl : 2 = mf := hPf.2.1
  obtain ⟨gb, go, rfl, _, hcs⟩ := hPf.at (by omega)
  have f00 : w1.cell? ⟨gb, go, none⟩ = some (.int .i64 4) := by simpa using (hcs 0 (by omega)).1
  have f01 : w1.cell? ⟨gb, go + 1, none⟩ = some (.int .i64 3) := by simpa using (hcs 0 (by omega)).2
  have f10 : w1.cell? ⟨gb, go + 2, none⟩ = some (.int .i64 22) := by simpa using (hcs 1 (by omega)).1
  have HB1 : Hid (Below w.heap.size w w1) := ((HB0.out.alloc HB0.out.size _).trans (hb1.mono (by simp; omega)))
  have HX1 : Hid (BBox w1 w.heap.size k t (.slice a1 n1 cap1) u) := (HX0.out.alloc _).below hb1 (by simp; omega)
  clear hPf hcs hb1 HP1
  rw [errv_zero]
  go_wp2_with fail
  refine (HPG.out _ HB1.out).mono ?_
  rintro e w2 ⟨a3, m3, c3, rfl, hP3, _, _, hb2⟩
  have HP3 := hidden hP3
  have HX2 := hidden (HX1.out.below hb2 HX1.out.lt)
  have HB2 := hidden (HB1.out.trans (hb2.mono HB1.out.size))
  obtain rfl : m3 = l1.length := by have := hP3.2.1; rw [pr_len] at this; exact this.symm
  clear hP3 hb2 f00 f01 f10 HPG HX0 HB0 HX1
  have hlt2 := HX2.out.lt
  go_upto_if 62 with fail
  go_cut [11, 12, 13, 14, 15] from 63 (fun x11 x12 x13 x14 x15 wx => Hid (Below w.heap.size w wx ∧ BBox wx w.heap.size k t (.slice a1 n1 cap1) u))
  case first =>
    cases z1 with
    | false =>
      go_wp2_with fail
      go_meet
      exact ⟨HB2.out, HX2.out⟩
    | true =>
      obtain ⟨q1, q2, q3, q4, q5, q6, q7⟩ := HBK.out (of_decide_eq_true HZ1.out)
      have HNG := hidden (numbers_gen a3 l1.length c3 (pr l1) w2 HP3.out)
      rw [q1, q2] at HNG
      have HQ6 := hidden q6
      have HQ7 := hidden q7
      clear q1 q2 q6 q7
      have hq3 : decide (n0 < l1.length) = false := by simp; omega
      go_wp2_with fail
      refine HNG.out.mono ?_
      rintro e w3 ⟨a4, m4, c4, rfl, hI4, _, _, hb3⟩
      obtain rfl : NL.length = m4 := hI4.2.1
      have HI4 := hidden hI4
      have HB3 := hidden (HB2.out.trans (hb3.mono HB2.out.size))
      have HX3 := hidden (HX2.out.below hb3 HX2.out.lt)
      have HP4 := hidden (HP3.out.below hb3)
      clear hI4 hb3 HNG
      rw [errv_zero]
      go_wp2_with fail
      refine (HSO.out _ HB3.out q4).mono ?_
      rintro e w4 ⟨v5, rfl, ho5, hb4⟩
      obtain ⟨a5, c5, rfl, hI5, _⟩ := own_ints ho5 (by omega)
      have HI5 := hidden hI5
      have HI4' := hidden (HI4.out.below hb4)
      have HB4 := hidden (HB3.out.trans (hb4.mono HB3.out.size))
      have HX4 := hidden (HX3.out.below hb4 HX3.out.lt)
      have HP5 := hidden (HP4.out.below hb4)
      clear ho5 hI5 hb4 HI4 HP4 HX3
      go_wp2_with fail
      refine (ints_same a4 a5 NL.length c4 c5 NL w4 HI4'.out HI5.out).mono ?_
      rintro e w5 ⟨rfl, hb5⟩
      have HB5 := hidden (HB4.out.trans (hb5.mono HB4.out.size))
      have HX5 := hidden (HX4.out.below hb5 HX4.out.lt)
      have HP6 := hidden (HP5.out.below hb5)
      clear hb5 HI4' HI5 HP5 HX4
      go_wp2_with fail
      go_loopg [15] l1.length (fun g y wr => ∃ (i : Nat), 1 ≤ i ∧ l1.length - i ≤ g ∧ i ≤ l1.length + 1 ∧ y = .int .i64 (i : Int) ∧ Hid (Below w5.heap.size w5 wr))
      case atStart => exact ⟨1, Nat.le_refl _, by omega, by omega, rfl, Below.refl _ _⟩
      case round =>
        obtain ⟨i, hi1, hig, hil, rfl, HW⟩ := hrel
        by_cases hi : i < l1.length
        · have hiz : (i : Int) < (l1.length : Int) := by omega
          obtain ⟨b, o, rfl, _, hcs⟩ := (HP6.out.below HW.out).at (by omega)
          obtain ⟨j, rfl⟩ : ∃ j, i = j + 1 := ⟨i - 1, by omega⟩
          have c1 := (hcs (j + 1) hi).1
          have c2 := (hcs j (by omega)).1
          have r1 := HQ6.out (j + 1) hi
          have r2 := HQ6.out j (by omega)
          have r3 := HQ7.out j hi
          clear hcs
          generalize ((pr l1).getD (j + 1) (0, 0)).1 = y1 at *
          generalize ((pr l1).getD j (0, 0)).1 = y2 at *
          have hle : ¬ (y1 ≤ y2 + 16) := by omega
          have ej : (((j + 1 : Nat) : Int) - 1) = (j : Int) := by omega
          have hjz : (j : Int) < (l1.length : Int) := by omega
          go_wp2_with fail
          go_quiet (fail)
          go_wp2_with fail
          go_roundg (l1.length - (j + 1 + 1))
          case measure => omega
          case rel => exact ⟨j + 1 + 1, by omega, by omega, by omega, by go_num, hidden (below_drewN' HW.out _)⟩
        · have hiz : ¬ (i : Int) < (l1.length : Int) := by omega
          go_wp2_with fail
          go_meet
          exact ⟨HB5.out.trans (HW.out.mono HB5.out.size), HX5.out.below HW.out HX5.out.lt⟩
  case rest =>
  have HB3 := hidden hcut.out.1
  have HX3 := hidden hcut.out.2
  clear hcut ceq1 geq1 HBK HZ1 HP3 HB2 HX2
  have hlt3 := HX3.out.lt
  obtain ⟨c0, c1, c2, c3'⟩ := HX3.out.cells
  go_wp2_with fail
  refine (HEN.out _ HB3.out).mono ?_
  rintro e w4 ⟨a6, m6, c6, rfl, hA6, _, hle6, hb4⟩
  have HA6 := hidden hA6
  have HB4 := hidden (HB3.out.trans (hb4.mono HB3.out.size))
  have HX4 := hidden (HX3.out.below hb4 hlt3)
  clear hA6 hb4 c0 c1 c2 c3' HX3
  have hlt4 := HX4.out.lt
  go_upto_if 111 with fail
  go_cut [17, 18, 19] from 112 (fun x17 x18 x19 wx => Hid (Below w.heap.size w wx))
  case first =>
    cases z2 with
    | false =>
      go_wp2_with fail
      go_meet
      exact HB4
    | true =>
      obtain ⟨k', t', r, rfl, rfl, hEB, hsh, hsf, hsl, hsu⟩ := HAG.out (of_decide_eq_true HZ2.out)
      subst hEB
      have HR4 := hidden (read_gen a6 m6 c6 _ w4 HA6.out hle6)
      have hrf := rfault_two k' t' r hsh
      rw [hsf] at hrf
      rw [hrf] at HR4
      go_wp2_with fail
      refine HR4.out.mono ?_
      rintro e w5 ⟨k5, t5, a7, m7, c7, u5, rfl, hRd⟩
      obtain ⟨_, hb5, _, hgood⟩ := hRd
      obtain ⟨k6, t6, r6, e6, _, _, rfl, rfl, hu5, hI7⟩ := hgood hrf
      simp only [List.cons.injEq] at e6
      obtain ⟨rfl, rfl, rfl⟩ := e6
      rw [hsl] at hI7
      rw [hsu] at hu5
      subst hu5
      have HI7 := hidden hI7
      have HB5 := hidden (HB4.out.trans (hb5.mono HB4.out.size))
      have HX5 := hidden (HX4.out.below hb5 hlt4)
      have hm7 : m7 = n1 := by rw [← hI7.2.1, HI1.out.2.1]
      subst hm7
      clear hb5 hI7 hgood hrf HR4
      have hlt5 := HX5.out.lt
      obtain ⟨c0, c1, c2, c3'⟩ := (HX5.out.alloc (.cells #[.int .i64 (k' : Int), .int .i64 (t' : Int), .slice a7 m7 c7, .int .i64 u5] 24)).cells
      have HSB : Hid (∀ W, Below w5.heap.size w5 W → Calls Try.prog _ #[.agg #[.int .i64 (k' : Int), .int .i64 (t' : Int), .slice a7 m7 c7, .int .i64 u5], .agg #[.int .i64 (k' : Int), .int .i64 (t' : Int), .slice a1 m7 cap1, .int .i64 u5]] W _) := fun W hW => same_bk k' t' u5 a7 a1 m7 c7 cap1 L1 W (HI7.out.below hW) (HI1.out.below (HB5.out.trans (hW.mono HB5.out.size)))
      rw [errv_zero]
      go_wp2_with fail
      refine (HSB.out _ ((Below.refl _ _).alloc (Nat.le_refl _) _)).mono ?_
      rintro e w6 ⟨rfl, hb6⟩
      have HB6 : Hid (Below w.heap.size w w6) := (HB5.out.alloc HB5.out.size _).trans (hb6.mono (by have := HB5.out.size; simp; omega))
      clear hb6 c0 c1 c2 c3'
      go_wp2_with fail
      go_meet
      exact HB6
  case rest =>
  have HB5 := hcut
  clear hcut ceq2 geq2 HZ2 HAG HEN HA6 HB4 HX4
  go_wp2_with fail
  refine (HRD.out _ HB5.out).mono ?_
  rintro e w6 ⟨k5, t5, a7, m7, c7, u5, rfl, hRd⟩
  obtain ⟨hn7, hb6, _, hgood⟩ := hRd
  have HB6 := hidden (HB5.out.trans (hb6.mono HB5.out.size))
  cases z3 with
  | false =>
    clear hb6 hgood
    go_wp2_with fail
    go_ret
    exact ⟨rfl, HB6.out.alloc HB6.out.size _⟩
  | true =>
    obtain ⟨k6, t6, r6, e6, hsh, hsf, rfl, rfl, rfl, hI7⟩ := hgood (of_decide_eq_true HZ3.out)
    obtain ⟨_, he0, heb⟩ := sfault_zero hsf
    have HEN2 : Hid (∀ W, Below w6.heap.size w6 W → Calls Try.prog _ #[.agg #[.int .i64 (k6 : Int), .int .i64 (t6 : Int), .slice a7 m7 c7, .int .i64 (saidU k6 r6 : Int)]] W _) := fun W hW => encode_gen k6 t6 a7 m7 c7 (saidU k6 r6) (saidL k6 r6) W (hI7.below hW) hn7
    rw [he0, encB, if_pos he0, heb, ← e6] at HEN2
    clear hb6 hgood hsf he0 heb e6
    generalize (saidU k6 r6 : Int) = u6 at *
    go_wp2_with fail
    refine (HEN2.out _ ((Below.refl _ _).alloc (Nat.le_refl _) _)).mono ?_
    rintro e w7 ⟨a8, m8, c8, rfl, hA8, _, _, hb7⟩
    have HB7 : Hid (Below w.heap.size w w7) := (HB6.out.alloc HB6.out.size _).trans (hb7.mono (by have := HB6.out.size; simp; omega))
    have v1 := HCV.out w7 c8 a8 m8 B hA8
    have v2 := HCV.out w7 cap2 a2 n2 B (HA2.out.below HB7.out)
    clear hA8 hb7
    generalize str B = S at *
    rw [errv_zero]
    go_wp2_with fail
    go_ret
    exact ⟨by simp, HB7.out⟩
end Go.Proofs.Ytjhfjkacfnccdac.BB
