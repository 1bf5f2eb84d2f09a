/-
  What the law NodeRepairs returns: true. Its condition: the bytes are no more than a slice may have.
-/
import Derived.Test.YtijfocggdjjnjaiGreatNRepH
import Derived.Deep.LoopGhost
import Derived.Deep.CutRange
namespace Go.Proofs.YtijfocggdjjnjaiGreat.ND
open Go.ChangeShapes Go.WideShapes Go.ChangeAt Go.RowKit Go.Maps Go.Lib Go.Proofs.YtijfocggdjjnjaiGreat.Mem Go.Proofs.YtijfocggdjjnjaiGreat.NO
set_option linter.unusedVariables false

theorem one1_below {W W' : World} {lg : Nat} {k : Int} {a : Option Addr} {m cp : Nat} {F : List Nat} (h : One1 W lg k a m cp F) (hb : Below W.heap.size W W') : One1 W' lg k a m cp F :=
  ⟨ext_cell hb h.1, ext_cell hb h.2.1, hidden ⟨h.2.2.out.1.below hb, h.2.2.out.2⟩⟩
set_option maxHeartbeats 8000000 in
set_option maxRecDepth 100000 in
theorem nrep_walk (first many miss : Int) (a : Option Addr) (m cap : Nat) (X : List Nat) (w : World) (hA : Arg w a m X) (hc : m ≤ cap) (hr : m ≤ 140737488355328) :
    Calls Tryz.prog 3 #[.int .i64 first, .int .i64 many, .int .i64 miss, .slice a m cap] w fun e w' => e = .returned (.bool true) ∧ Below w.heap.size w w' := by
  have HX := hidden (And.intro hA (And.intro hc hr))
  clear hA hc hr
  go_enter Tryz.func3, Tryz.ntmps3
  go_wp2_with fail
  refine (new_ok 1 (fun _ => nobody) 1 w (by decide)).mono ?_
  rintro e w1 hM
  obtain ⟨ba, rfl, hO⟩ := One.of_made (Below.refl _ _) hM
  have C2 := hidden (hO.new 2 (by decide))
  clear hM hO
  go_wp2_with fail
  refine C2.out.mono ?_
  rintro e w2 ⟨bb, rfl, hT⟩
  have C3 := hidden hT.planA
  clear hT C2
  go_wp2_with fail
  refine C3.out.mono ?_
  rintro e w3 ⟨rfl, hP⟩
  have C4 := hidden hP.planB
  clear hP C3
  go_wp2_with fail
  refine C4.out.mono ?_
  rintro e w4 ⟨rfl, hP⟩
  have C5 := hidden hP.stepA0
  clear hP C4
  go_wp2_with fail
  refine C5.out.mono ?_
  rintro e w5 ⟨g, rfl, C6⟩
  clear C5
  go_wp2_with fail
  refine C6.out.mono ?_
  rintro e w6 ⟨rfl, HP⟩
  have C7 := hidden (HP.out.outA1 noB0)
  clear HP C6
  go_wp2_with fail
  refine C7.out.mono ?_
  rintro e w7 ⟨lg, c, la, lm, lc, rfl, ⟨k0, k1, HL⟩, HP⟩
  have C8 := hidden (HP.out.hearB0 la lm lc HL.out.1 HL.out.2)
  clear HP HL C7
  go_wp2_with fail
  refine C8.out.mono ?_
  rintro e w8 ⟨rfl, hP⟩
  have C9 := hidden (hP.outB1 (noA _ _))
  clear hP C8 k0 k1
  go_wp2_with fail
  refine C9.out.mono ?_
  rintro e w9 ⟨lg9, c9, la9, lm9, lc9, rfl, _, HP⟩
  clear C9
  go_upto_region 16 with fail
  by_cases c1 : first < 6
  · go_wp2_with fail
    go_ret
    exact ⟨rfl, HP.out.bel⟩
  by_cases c2 : 30000 < first
  · go_wp2_with fail
    go_ret
    exact ⟨rfl, HP.out.bel⟩
  by_cases c3 : many < 3
  · go_wp2_with fail
    go_ret
    exact ⟨rfl, HP.out.bel⟩
  by_cases c4 : 60 < many
  · go_wp2_with fail
    go_ret
    exact ⟨rfl, HP.out.bel⟩
  by_cases c5 : miss < 1
  · go_wp2_with fail
    go_ret
    exact ⟨rfl, HP.out.bel⟩
  by_cases c6 : many - 2 < miss
  · go_wp2_with fail
    go_ret
    exact ⟨rfl, HP.out.bel⟩
  by_cases c7 : 150 < first
  · go_wp2_with fail
    go_ret
    exact ⟨rfl, HP.out.bel⟩
  obtain ⟨F, hF⟩ : ∃ F : Nat, first = (F : Int) := ⟨first.toNat, by omega⟩
  obtain ⟨Mn, hMn⟩ : ∃ Mn : Nat, many = (Mn : Int) := ⟨many.toNat, by omega⟩
  obtain ⟨ms, hms⟩ : ∃ ms : Nat, miss = (ms : Int) := ⟨miss.toNat, by omega⟩
  subst hF
  subst hMn
  subst hms
  have b1 : 6 ≤ F := by omega
  have b2 : F ≤ 150 := by omega
  have b3 : 3 ≤ Mn := by omega
  have b4 : Mn ≤ 60 := by omega
  have b5 : 1 ≤ ms := by omega
  have b6 : ms + 2 ≤ Mn := by omega
  go_wp2_with fail
  clear c1 c2 c3 c4 c5 c6 c7
  go_loopg [14] (F - 6) (fun gh x wr => ∃ n : Nat, n + gh = F ∧ 6 ≤ n ∧ x = .int .i64 (n : Int) ∧ Hid (PP w wr ba bb (fA 0 (n - 1)) (fB 0 0 (n - 1) [])))
  case atStart => exact ⟨6, by omega, by omega, rfl, HP⟩
  case round =>
    obtain ⟨n, hng, hn6, rfl, HP1⟩ := hrel
    by_cases hn : n < F
    · have hnz : (n : Int) < (F : Int) := by omega
      have D1 := hidden (HP1.out.stepA (n := n) (by omega) (by omega) rfl)
      clear HP1
      go_wp2_with fail
      refine D1.out.mono ?_
      rintro e x1 ⟨g1, rfl, D2⟩
      clear D1
      go_wp2_with fail
      refine D2.out.mono ?_
      rintro e x2 ⟨rfl, HP2⟩
      have D3 := hidden (HP2.out.outA1 (noB _ _ _ _))
      clear HP2 D2
      go_wp2_with fail
      refine D3.out.mono ?_
      rintro e x3 ⟨lg, c, la, lm, lc, rfl, ⟨k0, k1, HL⟩, HP3⟩
      have D4 := hidden (HP3.out.stepB (by omega) (by omega) (by simp) HL.out.1 HL.out.2)
      clear HP3 HL D3
      go_wp2_with fail
      refine D4.out.mono ?_
      rintro e x4 ⟨rfl, HP4⟩
      have D5 := hidden (HP4.out.outB1 (noA _ _))
      clear HP4 D4 k0 k1
      go_wp2_with fail
      refine D5.out.mono ?_
      rintro e x5 ⟨lg5, c5, la5, lm5, lc5, rfl, _, HP5⟩
      clear D5
      go_wp2_with fail
      go_roundg (F - (n + 1))
      case measure => omega
      case rel => exact ⟨n + 1, by omega, by omega, by go_num, HP5⟩
    · have hnz : ¬ (n : Int) < (F : Int) := by omega
      obtain rfl : n = F := by omega
      obtain ⟨HPs⟩ : Nonempty (Hid (PP w wr ba bb (fA 0 (n + 0 - 1)) (psi n ms 0))) := ⟨by
        have := HP1.out
        unfold psi
        rw [if_pos (by omega)]
        exact hidden this⟩
      clear HP1 hnz hn hng HP
      go_wp2_with fail
      go_loopg [15] Mn (fun gh x wx => ∃ i : Nat, i + gh = Mn ∧ x = .int .i64 (i : Int) ∧ Hid (PP w wx ba bb (fA 0 (n + i - 1)) (psi n ms i)))
      case atStart => exact ⟨0, by omega, rfl, HPs⟩
      case round =>
        obtain ⟨i, hig, rfl, HP1⟩ := hrel
        by_cases hi : i < Mn
        · have hiz : (i : Int) < (Mn : Int) := by omega
          have D1 := hidden (HP1.out.stepA (n := n + i) (by omega) (by omega) (x := (n : Int) + (i : Int)) (by omega))
          clear HP1
          go_wp2_with fail
          refine D1.out.mono ?_
          rintro e x1 ⟨g1, rfl, D2⟩
          clear D1
          go_wp2_with fail
          refine D2.out.mono ?_
          rintro e x2 ⟨rfl, HP2⟩
          have D3 := hidden (HP2.out.outA1 (noP _ _ _))
          clear HP2 D2
          go_wp2_with fail
          refine D3.out.mono ?_
          rintro e x3 ⟨lg, c, la, lm, lc, rfl, ⟨k0, k1, HL⟩, HP3⟩
          clear D3
          by_cases him : i = ms
          · subst him
            have HP4 : Hid (PP w x3 ba bb (fA 0 (n + (i + 1) - 1)) (psi n i (i + 1))) := by
              rw [psi_skip]
              exact HP3
            clear HP3 HL k0 k1
            go_wp2_with fail
            go_roundg (Mn - (i + 1))
            case measure => omega
            case rel => exact ⟨i + 1, by omega, by go_num, HP4⟩
          · have e1 : ((i : Int) == (ms : Int)) = false := by
              have : (i : Int) ≠ (ms : Int) := by omega
              simpa using this
            have D4 := hidden (HP3.out.psiB (by omega) (by omega) him HL.out.1 HL.out.2)
            clear HP3 HL him
            go_wp2_with fail
            refine D4.out.mono ?_
            rintro e x4 ⟨rfl, HP4⟩
            have D5 := hidden (HP4.out.outB1 (noA _ _))
            clear HP4 D4 k0 k1
            go_wp2_with fail
            refine D5.out.mono ?_
            rintro e x5 ⟨lg5, c5, la5, lm5, lc5, rfl, _, HP5⟩
            clear D5
            go_wp2_with fail
            go_roundg (Mn - (i + 1))
            case measure => omega
            case rel => exact ⟨i + 1, by omega, by go_num, HP5⟩
        · have hiz : ¬ (i : Int) < (Mn : Int) := by omega
          obtain rfl : i = Mn := by omega
          have hq := HP1.out
          rw [psi_end b6] at hq
          have D1 := hidden (hq.tickB (q := n + ms) (by omega))
          clear HP1 hq hiz hi hig
          go_wp2_with fail
          refine D1.out.mono ?_
          rintro e y1 ⟨rfl, hP⟩
          have D2 := hidden (hP.outB1 (noA _ _))
          clear hP D1
          go_wp2_with fail
          refine D2.out.mono ?_
          rintro e y2 ⟨lg, c, la, lm, lc, rfl, hO, HP2⟩
          have D3 := hidden (bread_lost (q := n + ms) (by omega) (x := (n : Int) + (ms : Int)) (by omega) hO.2.2.out.1 hO.2.2.out.2)
          have HO := hidden hO
          obtain ⟨k0, k1, _⟩ := hO
          clear D2
          go_wp2_with fail
          refine D3.out.mono ?_
          rintro e y3 ⟨g3, go3, c3, u3, rfl, cq, HB3⟩
          obtain ⟨y4, hy4⟩ : ∃ y4, y3.alloc (.cells #[.int .i64 1, .int .i64 1, .slice (some ⟨g3, go3, none⟩) 1 c3, .int .i64 u3] 41) = y4 := ⟨_, rfl⟩
          have hB4 : Below y3.heap.size y3 y4 := by rw [← hy4]; exact (Below.refl _ _).alloc (Nat.le_refl _) _
          have hbx : y4.heap[y3.heap.size]? = some (.cells #[.int .i64 1, .int .i64 1, .slice (some ⟨g3, go3, none⟩) 1 c3, .int .i64 u3] 41 (0, 0)) := by rw [← hy4]; exact heap_alloc_new y3 _
          have f0 : y4.cell? ⟨y3.heap.size, 0, none⟩ = some (.int .i64 1) := by simp [World.cell?, hbx]
          have f2 : y4.cell? ⟨y3.heap.size, 2, none⟩ = some (.slice (some ⟨g3, go3, none⟩) 1 c3) := by simp [World.cell?, hbx]
          have cq4 := ext_cell hB4 cq
          have hB24 : Below y2.heap.size y2 y4 := HB3.out.trans (hB4.mono HB3.out.size)
          have hO4 := one1_below HO.out hB24
          have HP4 := hidden (HP2.out.below hB24)
          have D5 := hidden (HP4.out.hearA (q := n + ms) (by omega) (by omega) (by omega) (by omega) la lm lc hO4.2.2.out.1 hO4.2.2.out.2)
          have k04 := hO4.1
          have k14 := hO4.2.1
          obtain ⟨xb, hxb⟩ : ∃ xb, y3.heap.size = xb := ⟨_, rfl⟩
          rw [hxb] at f0 f2
          have HY4 := hidden hy4
          clear hB4 hbx cq hB24 hO4 HP2 HP4 HO HB3 D3 k0 k1 hy4
          go_upto_region 40 with fail
          first | rw [HY4.out] | skip
          clear hxb
          go_wp2_with fail
          refine D5.out.mono ?_
          rintro e y5 ⟨rfl, hP⟩
          have D6 := hidden (hP.outA1 (noB _ _ _ _))
          clear hP D5 f0 f2 cq4 k04 k14
          go_wp2_with fail
          refine D6.out.mono ?_
          rintro e y6 ⟨lg6, c6, la6, lm6, lc6, rfl, ⟨k0, k1, HL6⟩, HP6⟩
          have D7 := hidden (HP6.out.hearL (n := n + ms) (by omega) (by omega) (by omega) la6 lm6 lc6 HL6.out.1 HL6.out.2)
          clear D6 HP6 HL6
          go_wp2_with fail
          refine D7.out.mono ?_
          rintro e y7 ⟨rfl, hP⟩
          have D8 := hidden (hP.outB1 (noA _ _))
          clear hP D7 k0 k1
          go_wp2_with fail
          refine D8.out.mono ?_
          rintro e y8 ⟨lg8, c8, la8, lm8, lc8, rfl, ⟨k0, k1, HL8⟩, HP8⟩
          have D9 := plain_first 3 1 1 1 2 ((n + ms : Nat) : Int) ((n + ms : Nat) : Int) 0 0 true lg8 0 1 c8 la8 lm8 lc8 (rL (n + ms)) y8 (by omega) k0 k1 HL8.out.1 HL8.out.2 (rF_fault (by omega) (by omega) (by omega)) (rp_fault (by omega)) (rp_pby_lt (by omega))
          rw [show ((n + ms : Nat) : Int) = (n : Int) + (ms : Int) by omega] at D9
          have HD9 := hidden D9
          clear D8 D9 HL8 k0 k1
          go_wp2_with fail
          refine HD9.out.mono ?_
          rintro e y9 ⟨fa, fm, fc, a9, c9', rfl, hb9, _⟩
          obtain ⟨zz, hzz⟩ : ∃ zz, (y9.alloc (.cells #[.int .i64 0, .int .i64 0, .int .i64 0, .int .i64 0, .slice none 0 0] 45)).alloc (.cells #[.int .i64 0, .int .i64 0, .int .i64 0, .int .i64 0, .bool false, .slice none 0 0] 32) = zz := ⟨_, rfl⟩
          have hBz : Below y9.heap.size y9 zz := by rw [← hzz]; exact below2 y9 _ _
          have hbz : zz.heap[y9.heap.size + 1]? = some (.cells #[.int .i64 0, .int .i64 0, .int .i64 0, .int .i64 0, .bool false, .slice none 0 0] 32 (0, 0)) := by
            rw [← hzz]
            have := heap_alloc_new (y9.alloc (.cells #[.int .i64 0, .int .i64 0, .int .i64 0, .int .i64 0, .slice none 0 0] 45)) (.cells #[.int .i64 0, .int .i64 0, .int .i64 0, .int .i64 0, .bool false, .slice none 0 0] 32)
            simpa using this
          have o5 := st5_only zz y9.heap.size (.int .i64 1) (.int .i64 1) (.int .i64 1) (.int .i64 2) (.slice fa fm fc)
          have o6 := st6_only (st5 zz y9.heap.size (.int .i64 1) (.int .i64 1) (.int .i64 1) (.int .i64 2) (.slice fa fm fc)) (y9.heap.size + 1) (.int .i64 ((n : Int) + (ms : Int))) (.int .i64 ((n : Int) + (ms : Int))) (.int .i64 0) (.int .i64 0) (.bool true) (.slice a9 (rL (n + ms)).length c9')
          have hbx := st6_same (o5.block hbz (by simp)) (.int .i64 ((n : Int) + (ms : Int))) (.int .i64 ((n : Int) + (ms : Int))) (.int .i64 0) (.int .i64 0) (.bool true) (.slice a9 (rL (n + ms)).length c9')
          obtain ⟨z0, hz0⟩ : ∃ z0, st6 (st5 zz y9.heap.size (.int .i64 1) (.int .i64 1) (.int .i64 1) (.int .i64 2) (.slice fa fm fc)) (y9.heap.size + 1) (.int .i64 ((n : Int) + (ms : Int))) (.int .i64 ((n : Int) + (ms : Int))) (.int .i64 0) (.int .i64 0) (.bool true) (.slice a9 (rL (n + ms)).length c9') = z0 := ⟨_, rfl⟩
          rw [hz0] at o6 hbx
          have hB0 : Below y9.heap.size y9 z0 := hBz.trans (((o5.mono (cs := [y9.heap.size, y9.heap.size + 1]) (by simp)).trans (o6.mono (by simp))).below hBz.size (by simp))
          have f0 : z0.cell? ⟨y9.heap.size + 1, 0, none⟩ = some (.int .i64 ((n : Int) + (ms : Int))) := by simp [World.cell?, hbx]
          unfold st5 st6 at hz0
          rw [← hzz] at hz0
          have HP9 := hidden (HP8.out.below (hb9.trans (hB0.mono hb9.size)))
          have hA9 := HX.out.1.below HP9.out.bel
          have E1 := hidden (HP9.out.hearX a m cap X hA9 HX.out.2.1 HX.out.2.2)
          obtain ⟨xb, hxb⟩ : ∃ xb, y9.heap.size + 1 = xb := ⟨_, rfl⟩
          rw [hxb] at f0 hz0
          have HZ0 := hidden hz0
          clear hB0 hbx hb9 hA9 HP8 HP9 HD9 hz0 hzz hBz hbz o5 o6
          go_upto_region 48 with fail
          first | rw [HZ0.out] | skip
          clear hxb
          go_wp2_with fail
          refine E1.out.mono ?_
          rintro e z1 ⟨f2, rfl, hf2, hb1, hP1⟩
          have H1 := hidden (And.intro hf2 (And.intro hb1 hP1))
          have E2 := hidden (Frame.fread_all a m cap X z1 (HX.out.1.below hb1) HX.out.2.1 HX.out.2.2)
          obtain ⟨f3, hf3⟩ : ∃ f, FM.bfault X = f := ⟨_, rfl⟩
          obtain ⟨x1, h1⟩ : ∃ x, ((FM.bfr X).tr : Int) = x := ⟨_, rfl⟩
          obtain ⟨x2, h2⟩ : ∃ x, ((FM.bfr X).og : Int) = x := ⟨_, rfl⟩
          obtain ⟨x3, h3⟩ : ∃ x, ((FM.bfr X).ep : Int) = x := ⟨_, rfl⟩
          obtain ⟨x4, h4⟩ : ∃ x, ((FM.bfr X).hp : Int) = x := ⟨_, rfl⟩
          rw [h1, h2, h3, h4, hf3] at E2
          rw [hf3] at H1
          clear E1 f0 hf2 hb1 hP1 h1 h2 h3 h4 hf3
          go_wp2_with fail
          refine E2.out.mono ?_
          rintro e z2 ⟨a2, m2, c2, rfl, hb2, _⟩
          rw [show Pack.errv f3 = errv f3 from rfl]
          obtain ⟨z3, hz3⟩ : ∃ z3, z2.alloc (.cells #[.int .i64 x1, .int .i64 x2, .int .i64 x3, .int .i64 x4, .slice a2 m2 c2] 45) = z3 := ⟨_, rfl⟩
          have hB3 : Below z1.heap.size z1 z3 := by rw [← hz3]; exact hb2.alloc hb2.size _
          have E3 := hidden (Back.read_gen a m cap X z3 ((HX.out.1.below H1.out.2.1).below hB3) HX.out.2.1)
          obtain ⟨f4, hf4⟩ : ∃ f, Back.rfault X = f := ⟨_, rfl⟩
          rw [hf4] at E3 H1
          have HB3 := hidden hB3
          have HZ3 := hidden hz3
          clear hb2 hB3 hz3 hf4 E2
          go_upto_region 52 with fail
          first | rw [HZ3.out] | skip
          go_wp2_with fail
          refine E3.out.mono ?_
          rintro e z4 ⟨k', t', a', m', c', u', rfl, _, hb4, _, _⟩
          rw [show Back.errv f4 = errv f4 from rfl]
          obtain ⟨z5, hz5⟩ : ∃ z5, z4.alloc (.cells #[.int .i64 k', .int .i64 t', .slice a' m' c', .int .i64 u'] 41) = z5 := ⟨_, rfl⟩
          have hB5 : Below z1.heap.size z1 z5 := by rw [← hz5]; exact (HB3.out.trans (hb4.mono HB3.out.size)).alloc (by have := HB3.out.size; have := hb4.size; omega) _
          have HB5 := hidden hB5
          have HZ5 := hidden hz5
          have q1 := cmp_eq f3
          have q2 := grd_eq f3
          have q3 := cmp_eq f4
          have q4 := grd_eq f4
          have q5 := cmp_ne f2
          have q6 := grd_ne f2
          clear hb4 hB5 hz5 E3
          go_upto_region 53 with fail
          first | rw [HZ5.out] | skip
          by_cases d3 : f3 = 0
          · have e3 : decide (f3 = 0) = true := by simpa using d3
            clear d3
            go_wp2_with fail
            go_ret
            exact ⟨rfl, H1.out.2.1.trans (HB5.out.mono H1.out.2.1.size)⟩
          by_cases d4 : f4 = 0
          · have e3 : decide (f3 = 0) = false := by simpa using d3
            have e4 : decide (f4 = 0) = true := by simpa using d4
            clear d3 d4
            go_wp2_with fail
            go_ret
            exact ⟨rfl, H1.out.2.1.trans (HB5.out.mono H1.out.2.1.size)⟩
          have d2 : f2 ≠ 0 := H1.out.1 d3 d4
          have e3 : decide (f3 = 0) = false := by simpa using d3
          have e4 : decide (f4 = 0) = false := by simpa using d4
          have e2 : decide (f2 = 0) = false := by simpa using d2
          have E5 := hidden (((H1.out.2.2 d2).below HB5.out).tickE)
          clear d3 d4 d2
          go_wp2_with fail
          refine E5.out.mono ?_
          rintro e z6 ⟨rfl, hP⟩
          have E6 := hidden (hP.outB0 (noA _ _))
          clear hP E5
          go_wp2_with fail
          refine E6.out.mono ?_
          rintro e z7 ⟨a7, c7, rfl, HP7⟩
          go_wp2_with fail
          go_ret
          exact ⟨rfl, HP7.out.bel⟩
end Go.Proofs.YtijfocggdjjnjaiGreat.ND

