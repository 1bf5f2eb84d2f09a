/-
  TreeLeast, walked: it answers true, and changes nothing that was there.
-/
import Derived.Test.YtafokjafbdgagagTreeJ
import Derived.Test.YtafokjafbdgagagTreeMath3
namespace Go.Proofs.Ytafokjafbdgagag.Least
open Go.ChangeShapes Go.WideShapes Go.ChangeAt Go.RowKit Go.Proofs.Ytafokjafbdgagag.Mem Go.Proofs.Ytafokjafbdgagag.TM Go.Proofs.Ytafokjafbdgagag.Tree
set_option linter.unusedVariables false

/-- the three edges -/
def l3 : List Ed := [⟨0, 1, 5⟩, ⟨1, 2, 4⟩, ⟨0, 2, 10⟩]
theorem fit3 : lf 3 l3 0 = 0 := by decide
theorem dist3 : IsDist l3 3 0 [0, 5, 9] := by
  have w0 : TM.Way l3 3 0 0 0 := TM.Way.here _ _ _
  have w1 : TM.Way l3 3 0 1 5 := w0.step (x := 0) (y := 1) (by omega) (by decide)
  have w2 : TM.Way l3 3 0 2 9 := w1.step (x := 1) (y := 2) (by omega) (by decide)
  refine isDist_of rfl (by omega) rfl (fun x hx => .inr ?_) (fun x hx _ y hy => ?_)
  · rcases (show x = 0 ∨ x = 1 ∨ x = 2 by omega) with rfl | rfl | rfl
    · exact w0
    · exact w1
    · exact w2
  · rcases (show x = 0 ∨ x = 1 ∨ x = 2 by omega) with rfl | rfl | rfl <;> rcases (show y = 0 ∨ y = 1 ∨ y = 2 by omega) with rfl | rfl | rfl <;> decide
theorem par3 {p : List Int} (h : IsPars l3 [0, 5, 9] 3 p) : dg p 2 = 1 := by
  refine (h.is 2 (by omega)).uniq (.inr ⟨1, rfl, by omega, ?_, fun f hf hg => ?_⟩)
  · exact ⟨by decide, by decide⟩
  · obtain rfl : f = 0 := by omega
    exact absurd hg.2 (by decide)
theorem lit3 (w : World) : EArg (w.alloc (.cells #[.int .i64 0, .int .i64 1, .int .i64 5, .int .i64 1, .int .i64 2, .int .i64 4, .int .i64 0, .int .i64 2, .int .i64 10] 29)) (some ⟨w.heap.size, 0, none⟩) 3 l3 := by
  refine ⟨fun j hj => ⟨w.heap.size, 0, rfl, ?_⟩, rfl, by omega⟩
  have hb := heap_alloc_new w (.cells #[.int .i64 0, .int .i64 1, .int .i64 5, .int .i64 1, .int .i64 2, .int .i64 4, .int .i64 0, .int .i64 2, .int .i64 10] 29)
  have hc := fun i => cell_of_row _ w.heap.size i _ 29 (0, 0) hb
  rw [hc, hc, hc]
  have hj3 : j < 3 := hj
  rcases (show j = 0 ∨ j = 1 ∨ j = 2 by omega) with rfl | rfl | rfl <;> exact ⟨rfl, rfl, rfl⟩
set_option maxHeartbeats 16000000 in
set_option maxRecDepth 100000 in
theorem walk_least (N r : Int) (a : Option Addr) (n cap : Nat) (L : List Ed) (w : World) (h : EArg w a n L) (hnc : n ≤ cap) :
    Calls Try.prog 3 #[.int .i64 N, .slice a n cap, .int .i64 r] w fun e w' => e = .returned (.bool true) ∧ Below w.heap.size w w' := by
  have HA := hidden h
  have hl := h.2.1
  have hn := h.2.2
  clear h
  obtain ⟨w0, hw0⟩ : ∃ w0, w.alloc (.cells #[.int .i64 0, .int .i64 1, .int .i64 5, .int .i64 1, .int .i64 2, .int .i64 4, .int .i64 0, .int .i64 2, .int .i64 10] 29) = w0 := ⟨_, rfl⟩
  have HB0 : Hid (Below w.heap.size w w0) := by rw [← hw0]; exact hidden (below_alloc (Below.refl _ _) _)
  have C0 : Hid (∀ v, v = Value.slice (some ⟨w.heap.size, 0, none⟩) 3 3 → Calls Try.prog 5 #[.int .i64 3, v, .int .i64 0] w0 fun e w' => ∃ vp vd p d, e = .returned (.tuple #[vp, vd, .nilIface]) ∧ BQ w0 w' 3 0 l3 vp vd p d) := fun v hv => by
    subst hv
    have := build_calls 3 0 (some ⟨w.heap.size, 0, none⟩) 3 3 l3 w0 (by rw [← hw0]; exact lit3 w) (Nat.le_refl _)
    rw [fit3, errv_zero] at this
    exact this
  have HW0 := hidden hw0
  clear hw0
  go_enter Try.func3, Try.ntmps3
  go_wp2_with fail
  rw [HW0.out]
  refine (C0.out _ rfl).mono ?_
  rintro e w1 ⟨vp0, vd0, p0, d0, rfl, hQ0⟩
  have HB1 : Hid (Below w.heap.size w w1) := HB0.out.trans (hQ0.bel.mono HB0.out.size)
  have hD0 : d0 = [0, 5, 9] := (hQ0.bp.2 fit3).1.uniq dist3
  subst hD0
  have hP0 := (hQ0.bp.2 fit3).2.1
  have hp0l : p0.length = 3 := hP0.len
  have hp02 := par3 hP0
  have o1 := hQ0.own1
  have o2 := hQ0.own2
  rw [hp0l] at o1
  obtain ⟨ap0, cp0, rfl, hI1, _, _, _⟩ := own_ints o1 (by omega)
  obtain ⟨ad0, cd0, rfl, hI2, _, _, _⟩ := own_ints (n := 3) o2 (by omega)
  obtain ⟨b1, q1, rfl, hc1⟩ := hI1.at (by omega)
  obtain ⟨b2, q2, rfl, hc2⟩ := hI2.at (by omega)
  have k1 := hc1 2 (by omega)
  have k2 := hc2 2 (by omega)
  rw [hp02] at k1
  rw [show dg [0, 5, 9] 2 = 9 from rfl] at k2
  have C := hidden (build_calls N r a n cap L w1 (HA.out.below HB1.out) hnc)
  clear hQ0 hP0 hp0l hp02 o1 o2 hI1 hI2 hc1 hc2 C0 HB0 HW0
  go_wp2_with fail
  refine C.out.mono ?_
  rintro e w2 ⟨vp, vd, P, D, rfl, hQ⟩
  have HQ := hidden hQ
  have HB2 : Hid (Below w.heap.size w w2) := HB1.out.trans (hQ.bel.mono HB1.out.size)
  clear C k1 k2
  by_cases h0 : lf N L r = 0
  · obtain ⟨m, root, rfl, rfl, hroot, hF⟩ := lf_zero h0
    obtain ⟨hD, hP, hbd⟩ := hQ.bp.2 h0
    simp only [Int.toNat_natCast] at hD hP
    have hO := pars_ok hF hD hroot hP
    have hm16 := hF.hi
    have hPl := hP.len
    have hDl := hD.len
    rw [h0, errv_zero]
    have HF := hidden hF
    have HD := hidden hD
    have HP := hidden hP
    have HBD := hidden hbd
    have HO := hidden hO
    clear hF hbd hO h0 hQ
    have o1 := HQ.out.own1
    have o2 := HQ.out.own2
    rw [hPl] at o1
    rw [hDl] at o2
    obtain ⟨ap, cp, rfl, hI1, _, _, _⟩ := own_ints o1 (by omega)
    obtain ⟨ad, cd, rfl, hI2, _, _, _⟩ := own_ints o2 (by omega)
    obtain ⟨bp, op, rfl, hcp⟩ := hI1.at (by omega)
    obtain ⟨bd, od, rfl, hcd⟩ := hI2.at (by omega)
    have HI1 := hidden hI1
    have HI2 := hidden hI2
    have HA2 := hidden (HA.out.below HB2.out)
    have HLP : Hid (bp < w2.heap.size) := World.block_lt_of_cell? w2 ⟨bp, op + 0, none⟩ (hcp 0 (by omega))
    have HLD : Hid (bd < w2.heap.size) := World.block_lt_of_cell? w2 ⟨bd, od + 0, none⟩ (hcd 0 (by omega))
    have HCP : Hid (∀ w', Below w2.heap.size w2 w' → ∀ j, j < m → w'.cell? ⟨bp, op + j, none⟩ = some (.int .i64 (dg P j))) := fun w' hb j hj => (hb.cell (p := ⟨bp, op + j, none⟩) HLP.out).trans (hcp j hj)
    have HCD : Hid (∀ w', Below w2.heap.size w2 w' → ∀ j, j < m → w'.cell? ⟨bd, od + j, none⟩ = some (.int .i64 (dg D j))) := fun w' hb j hj => (hb.cell (p := ⟨bd, od + j, none⟩) HLD.out).trans (hcd j hj)
    have r1 := hcd root hroot
    have r2 := hcp root hroot
    rw [hD.root hroot] at r1
    have hpr : dg P root = -1 := by
      by_cases q : 0 ≤ dg P root
      · obtain ⟨_, _, _, _, _, _, _, h7⟩ := par_facts hD hroot hP hroot q
        exact absurd rfl h7
      · have := hP.range hroot; omega
    rw [hpr] at r2
    have hrz : (root : Int) < (m : Int) := by omega
    have HPR := hidden hpr
    clear o1 o2 hI1 hI2 hcp hcd hD hP hpr
    go_wp2_with fail
    go_loopg [13] n (fun g v wr => ∃ i : Nat, i + g = n ∧ v = .int .i64 (i : Int) ∧ Hid (Below w2.heap.size w2 wr))
    case atStart => exact ⟨0, by omega, rfl, Below.refl _ _⟩
    case round =>
      obtain ⟨i, hig, rfl, HB⟩ := hrel
      clear r1 r2
      by_cases hi : i < n
      · have hiz : (i : Int) < (n : Int) := by omega
        obtain ⟨b, o, rfl, hbl, hcs⟩ := (HA2.out.below HB.out).at (by omega)
        obtain ⟨c0, c1, c2⟩ := hcs i hi
        have hmem := getD_mem (L := L) (j := i) (by omega)
        obtain ⟨me, hme⟩ : ∃ me, L.getD i zz = me := ⟨_, rfl⟩
        rw [hme] at c0 c1 c2 hmem
        clear hcs hme
        have hok := okE_iff.1 (HF.out.ok _ hmem)
        obtain ⟨xa, xb, xc⟩ := me
        simp only at c0 c1 c2 hok
        obtain ⟨p, rfl⟩ : ∃ p : Nat, xa = (p : Int) := ⟨xa.toNat, by omega⟩
        obtain ⟨q, rfl⟩ : ∃ q : Nat, xb = (q : Int) := ⟨xb.toNat, by omega⟩
        have hp : p < m := by omega
        have hq : q < m := by omega
        have hpz : (p : Int) < (m : Int) := by omega
        have hqz : (q : Int) < (m : Int) := by omega
        have hxc : 1 ≤ xc ∧ xc ≤ 1000000 := by omega
        have e1 : cst L (p : Int) (q : Int) = xc := cst_mem HF.out hmem (jn_iff.2 (.inl ⟨rfl, rfl⟩))
        have e2 : cst L (q : Int) (p : Int) = xc := by rw [cst_comm]; exact e1
        have g1 := HD.out.rel hp hq
        have g2 := HD.out.rel hq hp
        rw [e1] at g1
        rw [e2] at g2
        have l1 := HBD.out p
        have l2 := HBD.out q
        clear e1 e2 hmem hok
        obtain ⟨w3, hw3⟩ : ∃ w3, wr.alloc (.cells #[.int .i64 (p : Int), .int .i64 (q : Int), .int .i64 xc] 29) = w3 := ⟨_, rfl⟩
        have HB3 : Hid (Below w2.heap.size w2 w3) := by rw [← hw3]; exact hidden (below_alloc HB.out _)
        have HX3 : Hid (EBox w3 wr.heap.size ⟨p, q, xc⟩) := by rw [← hw3]; exact hidden (EBox.new wr ⟨p, q, xc⟩)
        have HW3 := hidden hw3
        clear hw3
        go_upto_region 13 with fail
        rw [HW3.out]
        clear HW3 c0 c1 c2
        obtain ⟨x0, x1, x2⟩ := HX3.out.cells
        simp only at x0 x1 x2
        have d1 := HCD.out w3 HB3.out p hp
        have d2 := HCD.out w3 HB3.out q hq
        clear HX3
        generalize dg D p = y1 at *
        generalize dg D q = y2 at *
        by_cases hy : y1 < 0
        · have hy2 : y2 < 0 := by
            by_cases k : y2 < 0
            · exact k
            · have := g2 (by omega) (by omega); omega
          have f1 : decide (y1 < 0) = true := by simpa using hy
          have f2 : decide (y2 < 0) = true := by simpa using hy2
          have f3 : decide (0 ≤ y1) = false := by simpa using hy
          clear g1 g2 hy hy2 l1 l2
          go_wp2_with fail
          go_quiet (fail)
          go_wp2_with fail
          go_roundg (n - (i + 1))
          case measure => omega
          case rel => exact ⟨i + 1, by omega, by go_num, hidden (below_drewN' HB3.out _)⟩
        · have k1 := g1 (by omega) (by omega)
          have k2 := g2 (by omega) (by omega)
          have f1 : decide (y1 < 0) = false := by simpa using hy
          have f2 : decide (y2 < 0) = false := by simp; omega
          have f3 : decide (0 ≤ y1) = true := by simp; omega
          have f4 : decide (y2 + xc < y1) = false := by simp; omega
          have f5 : decide (y1 + xc < y2) = false := by simp; omega
          have f6 : IntKind.i64.wrap (y2 + xc) = y2 + xc := wrap_id (by omega) (by omega)
          have f7 : IntKind.i64.wrap (y1 + xc) = y1 + xc := wrap_id (by omega) (by omega)
          clear g1 g2 hy l1 l2 k1 k2
          go_wp2_with fail
          go_quiet (fail)
          go_wp2_with fail
          go_roundg (n - (i + 1))
          case measure => omega
          case rel => exact ⟨i + 1, by omega, by go_num, hidden (below_drewN' HB3.out _)⟩
      · have hiz : ¬ (i : Int) < (n : Int) := by omega
        obtain rfl : n = i := by omega
        go_wp2_with fail
        go_loopg [15, 16] m (fun g u v wq => ∃ (j : Nat), j + g = m ∧ u = .int .i64 (sd D P j) ∧ v = .int .i64 (j : Int) ∧ Hid (Below w2.heap.size w2 wq))
        case atStart => exact ⟨0, by omega, rfl, rfl, HB⟩
        case round =>
          obtain ⟨j, hjg, rfl, rfl, HB⟩ := hrel
          by_cases hj : j < m
          · have hjz : (j : Int) < (m : Int) := by omega
            have hbf : bf P (j : Int) = 0 := bf_of HO.out (by omega)
            have C2 := hidden (path_calls (some ⟨bp, op, none⟩) m cp P (j : Int) wr (HI1.out.below HB.out))
            rw [hbf, errv_zero] at C2
            have hW : DnW P j (pl P (j : Int)) := by
              unfold pl
              rw [if_pos hbf]
              exact (wu_up HO.out.rng P.length j (by omega) (HO.out.ends j (by omega))).down
            have hWl := pl_len P (j : Int)
            generalize pl P (j : Int) = W at *
            have HWW := hidden hW
            have hpos := hW.pos
            clear hW hbf
            go_wp2_with fail
            refine C2.out.mono ?_
            rintro e w3 ⟨vw, rfl, ho, hb⟩
            have HB3 : Hid (Below w2.heap.size w2 w3) := HB.out.trans (hb.mono HB.out.size)
            obtain ⟨aw, cw, rfl, hIW, _, _, _⟩ := own_ints ho (by omega)
            obtain ⟨bw, ow, rfl, hcw⟩ := hIW.at (by omega)
            have s1 := hcw (W.length - 1) (by omega)
            have s0 := hcw 0 (by omega)
            rw [HWW.out.last] at s1
            rw [Nat.add_zero] at s0
            obtain ⟨wl, hwl⟩ : ∃ wl : Nat, W.length - 1 = wl := ⟨_, rfl⟩
            rw [hwl] at s1
            have hwz : (wl : Int) < (W.length : Int) := by omega
            have hw0 : (0 : Int) < (W.length : Int) := by omega
            have fpos : decide ((W.length : Int) < 1) = false := by simp; omega
            have fw : IntKind.i64.wrap ((W.length : Int) - 1) = (wl : Int) := by rw [wrap_id (by omega) (by omega)]; omega
            have d1 := HCD.out w3 HB3.out j hj
            have p1 := HCP.out w3 HB3.out j hj
            have hsd : sd D P (j + 1) = sd D P j + (if dg P j < 0 then 0 else dg D j - dg D (dg P j).toNat) := rfl
            have hsm := sm_sd HD.out hroot HP.out j (by omega)
            have hsr := sm_range HF.out.ok P j
            rw [hsm.1] at hsr
            clear ho hb hIW hcw C2 hsm
            by_cases hneg : dg D j < 0
            · have hone := HWW.out.one HD.out hroot HP.out hneg
              have hpj : dg P j = -1 := by
                by_cases q : 0 ≤ dg P j
                · obtain ⟨_, _, _, _, _, _, h6, _⟩ := par_facts HD.out hroot HP.out hj q
                  omega
                · have := HP.out.range hj; omega
              have hjr : ((j : Int) != (root : Int)) = true := bne_iff_ne.2 (by
                intro e
                have : j = root := by omega
                rw [this, HD.out.root hroot] at hneg
                omega)
              rw [hpj, if_pos (by omega)] at hsd
              rw [hpj] at p1
              have HS1 : Hid (sd D P j = sd D P (j + 1)) := by rw [hsd]; exact hidden (by omega)
              have f1 : decide (0 ≤ dg D j) = false := by simpa using hneg
              have f2 : decide (dg D j < 0) = true := by simpa using hneg
              have f3 : ((W.length : Int) != 1) = false := by rw [hone]; rfl
              clear hsd hsr hneg hpj hone
              generalize dg D j = y at *
              generalize dg W 0 = z0 at *
              go_wp2_with fail
              go_roundg (m - (j + 1))
              case measure => omega
              case rel => exact ⟨j + 1, by omega, by rw [HS1.out], by go_num, HB3⟩
            · have hrt := HWW.out.root HD.out hroot HP.out (by omega)
              rw [hrt] at s0
              have f1 : decide (0 ≤ dg D j) = true := by simp; omega
              have f2 : decide (dg D j < 0) = false := by simpa using hneg
              by_cases hjr : j = root
              · subst hjr
                rw [HPR.out] at p1
                rw [HPR.out, if_pos (by omega)] at hsd
                have HS1 : Hid (sd D P j = sd D P (j + 1)) := by rw [hsd]; exact hidden (by omega)
                clear hsd hsr hneg hrt
                generalize dg D j = y at *
                go_wp2_with fail
                go_roundg (m - (j + 1))
                case measure => omega
                case rel => exact ⟨j + 1, by omega, by rw [HS1.out], by go_num, HB3⟩
              · have hpj := par_some HD.out HP.out hj (by omega) hjr
                obtain ⟨k, ek, hk, q3, q4, q5, q6, _⟩ := par_facts HD.out hroot HP.out hj hpj
                have fj : ((j : Int) != (root : Int)) = true := bne_iff_ne.2 (by omega)
                rw [ek] at p1
                rw [ek, if_neg (by omega), Int.toNat_natCast] at hsd
                have d2 := HCD.out w3 HB3.out k hk
                have hkz : (k : Int) < (m : Int) := by omega
                have hb1 := HBD.out j
                have hb2 := HBD.out k
                have fk : decide (dg D j ≤ dg D k) = false := by simp; omega
                have fs1 : IntKind.i64.wrap (sd D P j + dg D j) = sd D P j + dg D j := wrap_id (by omega) (by omega)
                have fs2 : IntKind.i64.wrap (sd D P j + dg D j - dg D k) = sd D P j + dg D j - dg D k := wrap_id (by omega) (by omega)
                have HS1 : Hid (sd D P j + dg D j - dg D k = sd D P (j + 1)) := by rw [hsd]; exact hidden (by omega)
                clear hsd hsr hneg hrt hpj ek q3 q4 q5 q6 hb1 hb2
                generalize dg D j = y at *
                generalize dg D k = y2 at *
                generalize sd D P j = s at *
                go_wp2_with fail
                go_quiet (fail)
                obtain ⟨w4, hw4⟩ : ∃ w4, w3.drewN nq = w4 := ⟨_, rfl⟩
                have HB4 : Hid (Below w2.heap.size w2 w4) := by rw [← hw4]; exact hidden (below_drewN' HB3.out _)
                have d1' : w4.cell? ⟨bd, od + j, none⟩ = some (.int .i64 y) := by rw [← hw4]; exact d1
                have d2' : w4.cell? ⟨bd, od + k, none⟩ = some (.int .i64 y2) := by rw [← hw4]; exact d2
                have p1' : w4.cell? ⟨bp, op + j, none⟩ = some (.int .i64 (k : Int)) := by rw [← hw4]; exact p1
                rw [hw4]
                clear hw4 d1 d2 p1 s0 s1
                go_wp2_with fail
                go_quiet (fail)
                go_wp2_with fail
                go_roundg (m - (j + 1))
                case measure => omega
                case rel => exact ⟨j + 1, by omega, by rw [← HS1.out], by go_num, hidden (below_drewN' HB4.out _)⟩
          · have hjz : ¬ (j : Int) < (m : Int) := by omega
            obtain rfl : j = m := by omega
            have hcb := cost_built HF.out HD.out hroot HP.out
            have C3 := hidden (cost_calls (j : Int) a n cap L (some ⟨bp, op, none⟩) j cp P wr (HA2.out.below HB.out) hnc (HI1.out.below HB.out))
            rw [hcb.1, hcb.2, errv_zero] at C3
            generalize sd D P j = s at *
            have HB4 : Hid (Below w.heap.size w wr) := HB2.out.trans (HB.out.mono HB2.out.size)
            clear hcb
            go_wp2_with fail
            refine C3.out.mono ?_
            rintro e w3 ⟨rfl, hb⟩
            have HB5 : Hid (Below w.heap.size w w3) := HB4.out.trans (hb.mono HB4.out.size)
            clear hb
            go_wp2_with fail
            go_ret
            exact ⟨rfl, HB5.out⟩
  · rw [errv_pos h0]
    have C3 := hidden (check_calls N a n cap L w2 (HA.out.below HB2.out) hnc)
    by_cases h1 : ef N L = 0
    · rw [h1, errv_zero] at C3
      have hi : isn N r = false := by
        cases q : isn N r with
        | false => rfl
        | true => exact absurd (by unfold lf; rw [if_neg (by simpa using h1), if_neg (by simp [q])]) h0
      have hi' : r < 0 ∨ N ≤ r := by simp [isn] at hi; omega
      clear hi
      by_cases h2 : r < 0
      · have f1 : decide (r < 0) = true := by simpa using h2
        go_wp2_with fail
        refine C3.out.mono ?_
        rintro e w3 ⟨rfl, hb⟩
        have HB5 : Hid (Below w.heap.size w w3) := HB2.out.trans (hb.mono HB2.out.size)
        clear hb
        go_wp2_with fail
        go_ret
        exact ⟨rfl, HB5.out⟩
      · have f1 : decide (r < 0) = false := by simpa using h2
        have f2 : decide (N ≤ r) = true := by simp; omega
        go_wp2_with fail
        refine C3.out.mono ?_
        rintro e w3 ⟨rfl, hb⟩
        have HB5 : Hid (Below w.heap.size w w3) := HB2.out.trans (hb.mono HB2.out.size)
        clear hb
        go_wp2_with fail
        go_ret
        exact ⟨rfl, HB5.out⟩
    · rw [errv_pos h1] at C3
      go_wp2_with fail
      refine C3.out.mono ?_
      rintro e w3 ⟨rfl, hb⟩
      have HB5 : Hid (Below w.heap.size w w3) := HB2.out.trans (hb.mono HB2.out.size)
      clear hb
      go_wp2_with fail
      go_ret
      exact ⟨rfl, HB5.out⟩
end Go.Proofs.Ytafokjafbdgagag.Least
