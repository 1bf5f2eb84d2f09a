/-
  The walk of the Go function OrderRow: it returns true at any number and any rows of numbers.
-/
import Derived.Test.YtenjemcehhocoaeORowM
import Derived.Deep.CutRange
import Derived.LoopTactic
namespace Go.Proofs.Ytenjemcehhocoae.ORow
open Go.ChangeShapes Go.WideShapes Go.ChangeAt Go.RowKit Go.Proofs.Ytenjemcehhocoae.PM Go.Proofs.Ytenjemcehhocoae.Mem Go.Proofs.Ytenjemcehhocoae.Pack Go.Proofs.Ytenjemcehhocoae.OM Go.Proofs.Ytenjemcehhocoae.Order
set_option linter.unusedVariables false

set_option maxHeartbeats 8000000 in
set_option maxRecDepth 100000 in
theorem walk_neg (wt : Int) (vl vt : Value) (w : World) (h : wt < 0) :
    Calls Try.prog 3 #[.int .i64 wt, vl, vt] w fun e w' => e = .returned (.bool true) ∧ Below w.heap.size w w' := by
  have HN : Hid (∀ W, Calls Try.prog 4 #[.int .i64 wt] W fun e w' => e = .returned (.tuple #[.pointer none, .iface 41 (.int .i64 1)]) ∧ w' = W) := hidden (fun W => new_err wt W (by omega))
  have H1 := hidden new5
  have H2 := hidden first7
  have H3 := hidden first9
  have H4 := hidden firstPop
  go_enter Try.func3, Try.ntmps3
  go_wp2_with fail
  refine (H1.out _).mono ?_
  rintro e w1 ⟨b1, mb1, rfl, hb1, hb2, hR, hbl⟩
  have HG := hidden hR
  have HB := hidden hbl
  clear hR hbl
  go_wp2_with fail
  refine (H2.out b1 mb1 w1 HG.out).mono ?_
  rintro e w2 ⟨rfl, bv1, hR, hI, ho⟩
  have HG2 := hidden hR
  have HI2 := hidden hI
  have HB2 := hidden (below_of HB.out ho hb1 hb2)
  clear hR ho hI HG HB
  go_wp2_with fail
  refine (H3.out b1 mb1 bv1 w2 HG2.out HI2.out).mono ?_
  rintro e w3 ⟨rfl, bv2, hR, hI, ho⟩
  have HG3 := hidden hR
  have HI3 := hidden hI
  have HB3 := hidden (below_of HB2.out ho hb1 hb2)
  clear hR ho hI HG2 HB2 HI2
  go_wp2_with fail
  refine (H4.out b1 mb1 bv1 bv2 w3 HG3.out HI3.out).mono ?_
  rintro e w4 ⟨g0, cap0, rfl, ⟨hc0, hc1⟩, ho⟩
  have HB4 := hidden (below_of HB3.out ho hb1 hb2)
  clear ho HG3 HB3 HI3 hb1 hb2
  go_wp2_with fail
  refine (HN.out _).mono ?_
  rintro e w5 ⟨rfl, rfl⟩
  clear hc0 hc1
  go_wp2_with fail
  go_ret
  exact ⟨rfl, HB4.out⟩
set_option maxHeartbeats 8000000 in
set_option maxRecDepth 100000 in
theorem walk_big (wt : Int) (vl vt : Value) (w : World) (h : 1000000 < wt) :
    Calls Try.prog 3 #[.int .i64 wt, vl, vt] w fun e w' => e = .returned (.bool true) ∧ Below w.heap.size w w' := by
  have HN : Hid (∀ W, Calls Try.prog 4 #[.int .i64 wt] W fun e w' => e = .returned (.tuple #[.pointer none, .iface 41 (.int .i64 1)]) ∧ w' = W) := hidden (fun W => new_err wt W (by omega))
  have H1 := hidden new5
  have H2 := hidden first7
  have H3 := hidden first9
  have H4 := hidden firstPop
  go_enter Try.func3, Try.ntmps3
  go_wp2_with fail
  refine (H1.out _).mono ?_
  rintro e w1 ⟨b1, mb1, rfl, hb1, hb2, hR, hbl⟩
  have HG := hidden hR
  have HB := hidden hbl
  clear hR hbl
  go_wp2_with fail
  refine (H2.out b1 mb1 w1 HG.out).mono ?_
  rintro e w2 ⟨rfl, bv1, hR, hI, ho⟩
  have HG2 := hidden hR
  have HI2 := hidden hI
  have HB2 := hidden (below_of HB.out ho hb1 hb2)
  clear hR ho hI HG HB
  go_wp2_with fail
  refine (H3.out b1 mb1 bv1 w2 HG2.out HI2.out).mono ?_
  rintro e w3 ⟨rfl, bv2, hR, hI, ho⟩
  have HG3 := hidden hR
  have HI3 := hidden hI
  have HB3 := hidden (below_of HB2.out ho hb1 hb2)
  clear hR ho hI HG2 HB2 HI2
  go_wp2_with fail
  refine (H4.out b1 mb1 bv1 bv2 w3 HG3.out HI3.out).mono ?_
  rintro e w4 ⟨g0, cap0, rfl, ⟨hc0, hc1⟩, ho⟩
  have HB4 := hidden (below_of HB3.out ho hb1 hb2)
  clear ho HG3 HB3 HI3 hb1 hb2
  go_wp2_with fail
  refine (HN.out _).mono ?_
  rintro e w5 ⟨rfl, rfl⟩
  clear hc0 hc1
  go_wp2_with fail
  go_ret
  exact ⟨rfl, HB4.out⟩
set_option maxHeartbeats 8000000 in
set_option maxRecDepth 100000 in
theorem walk_far (wt : Int) (vl vt : Value) (w : World) (h0 : 1000 < wt) (h1 : wt ≤ 1000000) :
    Calls Try.prog 3 #[.int .i64 wt, vl, vt] w fun e w' => e = .returned (.bool true) ∧ Below w.heap.size w w' := by
  have HN := hidden (fun w => new_ok wt w (by omega) h1)
  have H1 := hidden new5
  have H2 := hidden first7
  have H3 := hidden first9
  have H4 := hidden firstPop
  go_enter Try.func3, Try.ntmps3
  go_wp2_with fail
  refine (H1.out _).mono ?_
  rintro e w1 ⟨b1, mb1, rfl, hb1, hb2, hR, hbl⟩
  have HG := hidden hR
  have HB := hidden hbl
  clear hR hbl
  go_wp2_with fail
  refine (H2.out b1 mb1 w1 HG.out).mono ?_
  rintro e w2 ⟨rfl, bv1, hR, hI, ho⟩
  have HG2 := hidden hR
  have HI2 := hidden hI
  have HB2 := hidden (below_of HB.out ho hb1 hb2)
  clear hR ho hI HG HB
  go_wp2_with fail
  refine (H3.out b1 mb1 bv1 w2 HG2.out HI2.out).mono ?_
  rintro e w3 ⟨rfl, bv2, hR, hI, ho⟩
  have HG3 := hidden hR
  have HI3 := hidden hI
  have HB3 := hidden (below_of HB2.out ho hb1 hb2)
  clear hR ho hI HG2 HB2 HI2
  go_wp2_with fail
  refine (H4.out b1 mb1 bv1 bv2 w3 HG3.out HI3.out).mono ?_
  rintro e w4 ⟨g0, cap0, rfl, ⟨hc0, hc1⟩, ho⟩
  have HB4 := hidden (below_of HB3.out ho hb1 hb2)
  clear ho HG3 HB3 HI3 hb1 hb2
  go_wp2_with fail
  refine (HN.out _).mono ?_
  rintro e w5 ⟨b, mb, rfl, hb1, hb2, hR, hb5⟩
  have HB5 : Hid (Below w.heap.size w w5) := HB4.out.trans (hb5.mono HB4.out.size)
  clear hc0 hc1 hR hb5
  go_wp2_with fail
  go_ret
  exact ⟨rfl, HB5.out⟩
set_option maxHeartbeats 8000000 in
set_option maxRecDepth 100000 in
theorem walk_in (wt : Int) (al at_ : Option Addr) (ll cl lt ct : Nat) (Z Y : Nat → Int) (w : World) (h0 : 0 ≤ wt) (h1 : wt ≤ 1000) (hll : ll ≤ 9223372036854775807) (hlt : lt ≤ 9223372036854775807)
    (hZ : Hid (∀ j, j < ll → ∃ b o, al = some ⟨b, o, none⟩ ∧ b < w.heap.size ∧ w.cell? ⟨b, o + j, none⟩ = some (.int .i64 (Z j))))
    (hY : Hid (∀ j, j < lt → ∃ b o, at_ = some ⟨b, o, none⟩ ∧ b < w.heap.size ∧ w.cell? ⟨b, o + j, none⟩ = some (.int .i64 (Y j)))) :
    Calls Try.prog 3 #[.int .i64 wt, .slice al ll cl, .slice at_ lt ct] w fun e w' => e = .returned (.bool true) ∧ Below w.heap.size w w' := by
  have HN := hidden (fun w => new_ok wt w h0 (by omega))
  have zB := zeroB
  have H1 := hidden new5
  have H2 := hidden first7
  have H3 := hidden first9
  have H4 := hidden firstPop
  go_enter Try.func3, Try.ntmps3
  go_wp2_with fail
  refine (H1.out _).mono ?_
  rintro e w1 ⟨b1, mb1, rfl, hb1, hb2, hR, hbl⟩
  have HG := hidden hR
  have HB := hidden hbl
  clear hR hbl
  go_wp2_with fail
  refine (H2.out b1 mb1 w1 HG.out).mono ?_
  rintro e w2 ⟨rfl, bv1, hR, hI, ho⟩
  have HG2 := hidden hR
  have HI2 := hidden hI
  have HB2 := hidden (below_of HB.out ho hb1 hb2)
  clear hR ho hI HG HB
  go_wp2_with fail
  refine (H3.out b1 mb1 bv1 w2 HG2.out HI2.out).mono ?_
  rintro e w3 ⟨rfl, bv2, hR, hI, ho⟩
  have HG3 := hidden hR
  have HI3 := hidden hI
  have HB3 := hidden (below_of HB2.out ho hb1 hb2)
  clear hR ho hI HG2 HB2 HI2
  go_wp2_with fail
  refine (H4.out b1 mb1 bv1 bv2 w3 HG3.out HI3.out).mono ?_
  rintro e w4 ⟨g0, cap0, rfl, ⟨hc0, hc1⟩, ho⟩
  have HB4 := hidden (below_of HB3.out ho hb1 hb2)
  clear ho HG3 HB3 HI3 hb1 hb2
  go_wp2_with fail
  refine (HN.out _).mono ?_
  rintro e w5 ⟨b, mb, rfl, hb1, hb2, hR, hb5⟩
  have HS0 : Hid (RSt w (w5.alloc (.cells zsB 38)) b mb w5.heap.size wt 0 (-1) [] (fun _ => false)) := by
    have hB5 : Below w.heap.size w w5 := HB4.out.trans (hb5.mono HB4.out.size)
    have s4 := HB4.out.size
    have s5 := hB5.size
    exact ⟨hB5.alloc s5 _, ⟨by omega, by omega, by omega⟩, hR.alloc _, inv_start, ArrB.new w5, by omega, by simp, fun j _ => by simp [has]⟩
  clear hb5 hR hc0 hc1 HB4 H1 H2 H3 H4 HN hb1 hb2
  go_wp2_with fail
  clear zB
  obtain ⟨ga, hga⟩ : ∃ ga, w5.heap.size = ga := ⟨_, rfl⟩
  rw [hga] at HS0
  try rw [hga]
  clear hga
  go_loopg [17, 18, 20] 80 (fun g now' nx' i' wr => ∃ (k : Nat) (now nw nx : Int) (M : Its) (F : Nat → Bool), k + g = 80 ∧ now' = .int .i64 now ∧ nx' = .int .i64 nx ∧ i' = .int .i64 (k : Int) ∧ Hid (nw ≤ now ∧ 0 ≤ now ∧ now ≤ 1000 * k) ∧ Hid (RSt w wr b mb ga wt nw nx M F))
  case atStart => exact ⟨0, 0, 0, -1, [], _, by omega, rfl, rfl, rfl, hidden ⟨by omega, by omega, by simp⟩, HS0⟩
  case round =>
    obtain ⟨k, now, nw, nx, M, F, hkg, rfl, rfl, rfl, HNow, HS⟩ := hrel
    clear HS0
    obtain ⟨db, hdb⟩ : ∃ db : Bool, (decide (k < ll) && decide (k < 80)) = db := ⟨_, rfl⟩
    have HDb := hidden hdb
    clear hdb
    go_upto_region 16 with fail
    go_cut [120] from 113 to 120 (fun c wx => c = .bool db ∧ wx = wr)
    case first =>
      by_cases q1 : k < ll
      · have q1z : (k : Int) < (ll : Int) := by omega
        have e := hidden (by rw [← HDb.out]; simp [q1]; omega : decide ((k : Int) < 80) = db)
        clear HDb
        go_wp2_with fail
        go_meet
        exact ⟨congrArg Value.bool e.out, rfl⟩
      · have q1z : ¬ (k : Int) < (ll : Int) := by omega
        have e := hidden (by rw [← HDb.out]; simp [q1] : false = db)
        clear HDb
        go_wp2_with fail
        go_meet
        exact ⟨congrArg Value.bool e.out, rfl⟩
    case rest =>
      obtain ⟨rfl, rfl⟩ := hcut
      cases db with
      | false =>
        have hk80 := hidden (show k ≤ 80 by omega)
        clear HDb hkg
        by_cases hnx : nx < 0
        · go_wp2_with fail
          go_ret
          exact ⟨rfl, HS.out.bel⟩
        · have hnx0 : 0 ≤ nx := by omega
          have hn0 := HNow.out.2.1
          have hn1 : now ≤ 80000 := by have := HNow.out.2.2; have := hk80.out; omega
          have ht2 : tf nw (now + wt) = 0 := tf_mk (by omega) (by omega) (by have := HNow.out.1; omega)
          obtain ⟨od, hO⟩ := od_ex wt (now + wt) M (fun i hi => (HS.out.inv.mem i hi).1)
          obtain ⟨K, hK2, hK⟩ := stop_ex HS.out.inv hO
          have HPo := hidden (pop_ok b mb wt nw nx (now + wt) od M K wc HS.out.ord HS.out.inv ht2 hO hK hK2)
          have HPp := hidden (fun (w1 : World) (av : Option Addr) (cv : Nat) => popped (w1 := w1) (av := av) (cv := cv) HS.out hnx0 ht2 hO hK)
          have HNl := hidden (none_left HS.out.inv (by have := HNow.out.1; omega) hO hK)
          clear hO hK ht2 hnx
          go_wp2_with fail
          refine HPo.out.mono ?_
          rintro e w2 ⟨av, cv, rfl, hrow, _, hOr, ho⟩
          obtain ⟨g, hav, hst⟩ := HPp.out w2 av cv hrow hOr ho
          have HAv := hidden hav
          have HS3 := hidden hst
          clear hav hst hrow hOr ho HPo HPp
          go_wp2_with fail
          go_loopg [18, 29] K (fun gh nx' k' wq => ∃ (j : Nat) (xk : Int), j + gh = K ∧ nx' = .int .i64 xk ∧ k' = .int .i64 (j : Int) ∧ Hid (xk = nx + (j : Int)) ∧ Hid (ISt w wq b mb ga wt (now + wt) nx M F K g))
          case atStart => exact ⟨0, nx, by omega, rfl, rfl, hidden (by omega), HS3⟩
          case round =>
            obtain ⟨j, xk, hjg, rfl, rfl, HXk, HSq⟩ := hrel
            clear HS3 HS
            by_cases hjK : j < K
            · have hjz : (j : Int) < (K : Int) := by omega
              obtain rfl := HAv.out (by omega)
              obtain ⟨y2, hy2, hy3, hcase⟩ := HSq.out.num j hjK
              obtain rfl : xk = (y2 : Int) := by rw [HXk.out]; exact hy2
              have hp := HSq.out.fin.arr.cell (j := y2) (by omega)
              have HP2 := hidden hp
              have hr := HSq.out.row j hjK
              rcases hcase with ⟨hF, t, l, q, st, v, _, hc8, a, m, c, rfl⟩ | ⟨hF, hc8⟩
              · rw [hF] at hp
                rw [hc8] at hr
                have r0 := hr 0 (by omega)
                have r1 := hr 1 (by omega)
                have r2 := hr 2 (by omega)
                have r3 := hr 3 (by omega)
                have r4 := hr 4 (by omega)
                have r5 := hr 5 (by omega)
                have r6 := hr 6 (by omega)
                have r7 := hr 7 (by omega)
                simp only [Nat.add_zero, List.getElem?_cons_zero, List.getElem?_cons_succ] at r0 r1 r2 r3 r4 r5 r6 r7
                clear hr hc8 hF
                go_wp2_with fail
                go_quiet (fail)
                go_wp2_with fail
                go_roundg (K - (j + 1))
                case measure => omega
                case rel => exact ⟨j + 1, _, by omega, rfl, by go_num, hidden (by have := HXk.out; omega), HSq.out.below (below_drewN (Below.refl _ _) _)⟩
              · rw [hF] at hp
                rw [hc8] at hr
                have r0 := hr 0 (by omega)
                have r1 := hr 1 (by omega)
                have r2 := hr 2 (by omega)
                have r3 := hr 3 (by omega)
                have r4 := hr 4 (by omega)
                have r5 := hr 5 (by omega)
                have r6 := hr 6 (by omega)
                have r7 := hr 7 (by omega)
                simp only [Nat.add_zero, List.getElem?_cons_zero, List.getElem?_cons_succ] at r0 r1 r2 r3 r4 r5 r6 r7
                clear hr hc8 hF
                go_wp2_with fail
                go_quiet (fail)
                go_wp2_with fail
                go_roundg (K - (j + 1))
                case measure => omega
                case rel => exact ⟨j + 1, _, by omega, rfl, by go_num, hidden (by have := HXk.out; omega), HSq.out.below (below_drewN (Below.refl _ _) _)⟩
            · have hjz : ¬ (j : Int) < (K : Int) := by omega
              obtain rfl : j = K := by omega
              have hfin := HSq.out.fin
              rw [HNl.out, ← HXk.out] at hfin
              have HFin := hidden hfin
              have hxk : 0 ≤ xk ∧ xk ≤ 150 := by have := hfin.top; have := HXk.out; omega
              obtain ⟨x, rfl⟩ : ∃ x : Nat, xk = (x : Int) := ⟨xk.toNat, by omega⟩
              clear hfin HSq HXk HNl
              go_wp2_with fail
              go_loopg [30] (150 - x) (fun gh n' wq => ∃ (n : Nat), n + gh = 150 ∧ x ≤ n ∧ n' = .int .i64 (n : Int) ∧ wq = wr)
              case atStart => exact ⟨x, by omega, by omega, rfl, rfl⟩
              case round =>
                obtain ⟨n, hng, hxn, rfl, rfl⟩ := hrel
                by_cases hn : n < 150
                · have hp := HFin.out.arr.cell (j := n) (by omega)
                  have hf : F n = false := by rw [HFin.out.rel n (by omega)]; simp [has]
                  rw [hf] at hp
                  clear hf
                  have hnz : (n : Int) < 150 := by omega
                  go_wp2_with fail
                  go_roundg (150 - (n + 1))
                  case measure => omega
                  case rel => exact ⟨n + 1, by omega, by omega, by go_num, by first | rfl | trivial⟩
                · have hnz : ¬ (n : Int) < 150 := by omega
                  go_wp2_with fail
                  refine (len_calls b mb wt (now + wt) (x : Int) [] _ HFin.out.ord HFin.out.inv.one).mono ?_
                  rintro e w3 ⟨rfl, rfl⟩
                  go_wp2_with fail
                  go_ret
                  exact ⟨rfl, HFin.out.bel⟩
      | true =>
        have hdb := HDb.out
        simp only [Bool.and_eq_true, decide_eq_true_eq] at hdb
        obtain ⟨hend, h80⟩ := hdb
        clear HDb
        have hkz : (k : Int) < (ll : Int) := by omega
        have h80z : (k : Int) < 80 := by omega
        obtain ⟨lb, lofs, rfl, hlb, hcell⟩ := hZ.out k hend
        have cz : wc.cell? ⟨lb, lofs + k, none⟩ = some (.int .i64 (Z k)) := (HS.out.bel.cell (p := ⟨lb, lofs + k, none⟩) hlb).trans hcell
        obtain ⟨z, hz⟩ : ∃ z, Z k = z := ⟨_, rfl⟩
        rw [hz] at cz
        clear hcell hz
        obtain ⟨tb, htb⟩ : ∃ tb : Bool, (decide (k < lt) && decide (0 ≤ Y k) && decide (Y k < 1000)) = tb := ⟨_, rfl⟩
        have HTb := hidden htb
        clear htb
        go_upto_region 18 with fail
        go_cut [140] from 123 to 140 (fun c wx => c = .bool tb ∧ wx = wc)
        case first =>
          by_cases q1 : k < lt
          · have q1z : (k : Int) < (lt : Int) := by omega
            obtain ⟨tbk, tof, rfl, htbk, htc⟩ := hY.out k q1
            have ct2 : wc.cell? ⟨tbk, tof + k, none⟩ = some (.int .i64 (Y k)) := (HS.out.bel.cell (p := ⟨tbk, tof + k, none⟩) htbk).trans htc
            obtain ⟨yy, hyy⟩ : ∃ yy, Y k = yy := ⟨_, rfl⟩
            rw [hyy] at ct2 HTb
            clear hyy htc
            by_cases q2 : 0 ≤ yy
            · have q2b : decide (0 ≤ yy) = true := by simpa using q2
              have e := hidden (by rw [← HTb.out]; simp [q1, q2] : decide (yy < 1000) = tb)
              clear HTb
              go_wp2_with fail
              go_meet
              exact ⟨congrArg Value.bool e.out, rfl⟩
            · have q2b : decide (0 ≤ yy) = false := by simpa using q2
              have e := hidden (by rw [← HTb.out]; simp [q2] : false = tb)
              clear HTb
              go_wp2_with fail
              go_meet
              exact ⟨congrArg Value.bool e.out, rfl⟩
          · have q1z : ¬ (k : Int) < (lt : Int) := by omega
            have e := hidden (by rw [← HTb.out]; simp [q1] : false = tb)
            clear HTb
            go_wp2_with fail
            go_meet
            exact ⟨congrArg Value.bool e.out, rfl⟩
        case rest =>
          obtain ⟨rfl, rfl⟩ := hcut
          go_upto_if 140 with fail
          go_cut [17] from 141 to 146 (fun n' wx => ∃ now2 : Int, n' = .int .i64 now2 ∧ Hid (now ≤ now2 ∧ now2 ≤ now + 999) ∧ wx = wc)
          case first =>
            cases tb with
            | true =>
              have ht := HTb.out
              simp only [Bool.and_eq_true, decide_eq_true_eq] at ht
              obtain ⟨⟨q1, q2⟩, q3⟩ := ht
              obtain ⟨tbk, tof, rfl, htbk, htc⟩ := hY.out k q1
              have q1z : (k : Int) < (lt : Int) := by omega
              have ct2 : wc.cell? ⟨tbk, tof + k, none⟩ = some (.int .i64 (Y k)) := (HS.out.bel.cell (p := ⟨tbk, tof + k, none⟩) htbk).trans htc
              obtain ⟨yy, hyy⟩ : ∃ yy, Y k = yy := ⟨_, rfl⟩
              rw [hyy] at ct2 q2 q3
              have hn0 := HNow.out.2.1
              have hn1 : now ≤ 80000 := by have := HNow.out.2.2; omega
              clear hyy htc HTb
              go_wp2_with fail
              go_meet
              exact ⟨now + yy, rfl, ⟨by omega, by omega⟩, rfl⟩
            | false =>
              go_wp2_with fail
              go_meet
              exact ⟨now, rfl, ⟨by omega, by omega⟩, rfl⟩
          case rest =>
            obtain ⟨now2, rfl, HN2, rfl⟩ := hcut
            have hn0 : 0 ≤ now2 := by have := HNow.out.2.1; have := HN2.out.1; omega
            have hn1 : now2 ≤ 80000 := by have := HNow.out.2.2; have := HN2.out.2; omega
            have HNw : Hid (nw ≤ now2 ∧ now2 ≤ 1000 * ((k + 1 : Nat) : Int)) := by have q1 := HNow.out; have q2 := HN2.out; exact hidden ⟨by omega, by omega⟩
            clear HNow HN2 HTb
            obtain ⟨rb, hrb⟩ : ∃ rb : Bool, (decide (z < 0) || decide (150 ≤ z)) = rb := ⟨_, rfl⟩
            have HRb := hidden hrb
            clear hrb
            go_upto_region 21 with fail
            go_cut [156] from 151 to 156 (fun c wx => c = .bool rb ∧ wx = wc)
            case first =>
              by_cases q1 : z < 0
              · have d1 : decide (z < 0) = true := by simpa using q1
                have e := hidden (by rw [← HRb.out]; simp [q1] : true = rb)
                go_wp2_with fail
                go_meet
                exact ⟨congrArg Value.bool e.out, rfl⟩
              · have d1 : decide (z < 0) = false := by simpa using q1
                have e := hidden (by rw [← HRb.out]; simp [q1] : decide (150 ≤ z) = rb)
                go_wp2_with fail
                go_meet
                exact ⟨congrArg Value.bool e.out, rfl⟩
            case rest =>
              obtain ⟨rfl, rfl⟩ := hcut
              clear cz
              cases rb with
              | true =>
                clear HRb
                go_wp2_with fail
                go_roundg (80 - (k + 1))
                case measure => omega
                case rel => exact ⟨k + 1, now2, nw, nx, M, F, by omega, rfl, rfl, by go_num, hidden ⟨HNw.out.1, hn0, HNw.out.2⟩, HS⟩
              | false =>
                have hr : 0 ≤ z ∧ z < 150 := by have := HRb.out; simp at this; omega
                clear HRb
                obtain ⟨y, rfl⟩ : ∃ y : Nat, z = (y : Int) := ⟨z.toNat, by omega⟩
                have hy : y < 150 := by omega
                clear hr
                have HPu := hidden (push_q b mb wt nw nx y now2 M wc HS.out.ord HS.out.inv (tf_mk hn0 (by omega) HNw.out.1) (by omega) (by omega) (HS.out.fits hy))
                have HPd := hidden (fun (w1 : World) (bv : Value) => HS.out.pushed (w1 := w1) (bv := bv) (now := now2) hy)
                have hkept := HS.out.kept y
                have hfv : 0 ≤ fx nx (y : Int) ∧ fx nx (y : Int) ≤ 150 := by
                  have := HS.out.inv.x1
                  have := HS.out.top
                  unfold fx; split <;> omega
                have hfx : fx nx (y : Int) = if nx = -1 then (y : Int) else nx := rfl
                have HFx := hidden hfx
                have hx1 := HS.out.inv.x1
                clear hfx
                generalize kx (fx nx (y : Int)) (y : Int) M = kv at *
                generalize fx nx (y : Int) = fv at *
                have HKe := hidden hkept
                clear hkept
                obtain ⟨hfv0, hfv1⟩ := hfv
                go_wp2_with fail
                refine HPu.out.mono ?_
                rintro e w1 ⟨rfl, bv, hO, hI, ho⟩
                obtain ⟨hA, hP0, hP1⟩ := HPd.out w1 bv hO hI ho
                have HA := hidden hA
                have HP0 := hidden hP0
                have HP1 := hidden hP1
                clear hA hP0 hP1 hO hI ho HPu HPd
                go_upto_if 169 with fail
                go_cut [18] from 170 to 170 (fun v wx => v = .int .i64 fv ∧ wx = w1)
                case first =>
                  by_cases hnx : nx = -1
                  · have hfy : (y : Int) = fv := by have := HFx.out; rw [if_pos hnx] at this; exact this.symm
                    have HFy := hidden hfy
                    subst hnx
                    clear hfy
                    go_wp2_with fail
                    go_meet
                    exact ⟨congrArg (Value.int .i64) HFy.out, rfl⟩
                  · have hfy : nx = fv := by have := HFx.out; rw [if_neg hnx] at this; exact this.symm
                    have HFy := hidden hfy
                    have hnx0 : 0 ≤ nx := by omega
                    clear hfy hnx
                    go_wp2_with fail
                    go_meet
                    exact ⟨congrArg (Value.int .i64) HFy.out, rfl⟩
                case rest =>
                  obtain ⟨rfl, rfl⟩ := hcut
                  go_upto_region 27 with fail
                  go_cut [181] from 171 to 181 (fun c wx => c = .bool false ∧ wx = wc)
                  case first =>
                    have cy := HA.out.cell (j := y) (by omega)
                    obtain ⟨fy, hfy⟩ : ∃ fy, F y = fy := ⟨_, rfl⟩
                    rw [hfy] at cy HKe
                    clear hfy
                    by_cases c : fv ≤ (y : Int)
                    · have d : decide (fv ≤ (y : Int)) = true := by simpa using c
                      cases fy with
                      | true =>
                        obtain rfl : kv = false := by rw [HKe.out]; simp
                        go_wp2_with fail
                        go_meet
                        exact ⟨rfl, rfl⟩
                      | false =>
                        obtain rfl : kv = true := by rw [HKe.out, d]; rfl
                        go_wp2_with fail
                        go_meet
                        exact ⟨rfl, rfl⟩
                    · have d : decide (fv ≤ (y : Int)) = false := by simpa using c
                      obtain rfl : kv = false := by rw [HKe.out, d]; rfl
                      go_wp2_with fail
                      go_meet
                      exact ⟨rfl, rfl⟩
                  case rest =>
                    obtain ⟨rfl, rfl⟩ := hcut
                    clear HKe HFx
                    go_upto_if 182 with fail
                    go_cut [] from 183 to 184 (fun wx => ∃ (M2 : Its) (F2 : Nat → Bool), Hid (RSt w wx b mb ga wt now2 fv M2 F2))
                    case first =>
                      cases kv with
                      | true =>
                        have cy := HA.out.cell (j := y) (by omega)
                        have fy := HA.out.free y
                        go_wp2_with fail
                        go_meet
                        exact ⟨_, _, HP1.out (by first | rfl | trivial)⟩
                      | false =>
                        go_wp2_with fail
                        go_meet
                        exact ⟨_, _, HP0.out (by first | rfl | trivial)⟩
                    case rest =>
                      obtain ⟨M2, F2, HS2⟩ := hcut
                      clear HS HP0 HP1 HA
                      go_upto_region 31 with fail
                      go_cut [187] from 185 to 187 (fun c wx => ∃ cb : Bool, c = .bool cb ∧ wx = wc)
                      case first =>
                        go_wp2_with fail
                        go_meet
                        exact ⟨_, rfl, rfl⟩
                      case rest =>
                        obtain ⟨cb, rfl, rfl⟩ := hcut
                        cases cb with
                        | true =>
                          go_wp2_with fail
                          go_roundg (80 - (k + 1))
                          case measure => omega
                          case rel => exact ⟨k + 1, now2, now2, fv, M2, F2, by omega, rfl, rfl, by go_num, hidden ⟨by omega, hn0, HNw.out.2⟩, HS2⟩
                        | false =>
                          obtain ⟨od, hO⟩ := od_ex wt now2 M2 (fun i hi => (HS2.out.inv.mem i hi).1)
                          obtain ⟨K, hK2, hK⟩ := stop_ex HS2.out.inv hO
                          have ht2 : tf now2 now2 = 0 := tf_mk hn0 (by omega) (by omega)
                          have HPo := hidden (pop_ok b mb wt now2 fv now2 od M2 K wc HS2.out.ord HS2.out.inv ht2 hO hK hK2)
                          have HPp := hidden (fun (w1 : World) (av : Option Addr) (cv : Nat) => popped (w1 := w1) (av := av) (cv := cv) HS2.out hfv0 ht2 hO hK)
                          clear hO hK ht2
                          go_wp2_with fail
                          refine HPo.out.mono ?_
                          rintro e w2 ⟨av, cv, rfl, hrow, _, hOr, ho⟩
                          obtain ⟨g, hav, hst⟩ := HPp.out w2 av cv hrow hOr ho
                          have HAv := hidden hav
                          have HS3 := hidden hst
                          clear hav hst hrow hOr ho HPo HPp
                          go_wp2_with fail
                          go_loopg [18, 25] K (fun gh nx' k' wq => ∃ (j : Nat) (xk : Int), j + gh = K ∧ nx' = .int .i64 xk ∧ k' = .int .i64 (j : Int) ∧ Hid (xk = fv + (j : Int)) ∧ Hid (ISt w wq b mb ga wt now2 fv M2 F2 K g))
                          case atStart => exact ⟨0, fv, by omega, rfl, rfl, hidden (by omega), HS3⟩
                          case round =>
                            obtain ⟨j, xk, hjg, rfl, rfl, HXk, HSq⟩ := hrel
                            clear HS3 HS2
                            by_cases hjK : j < K
                            · have hjz : (j : Int) < (K : Int) := by omega
                              obtain rfl := HAv.out (by omega)
                              obtain ⟨y2, hy2, hy3, hcase⟩ := HSq.out.num j hjK
                              obtain rfl : xk = (y2 : Int) := by rw [HXk.out]; exact hy2
                              have hp := HSq.out.fin.arr.cell (j := y2) (by omega)
                              have HP2 := hidden hp
                              have hr := HSq.out.row j hjK
                              rcases hcase with ⟨hF, t, l, q, st, v, _, hc8, a, m, c, rfl⟩ | ⟨hF, hc8⟩
                              · rw [hF] at hp
                                rw [hc8] at hr
                                have r0 := hr 0 (by omega)
                                have r1 := hr 1 (by omega)
                                have r2 := hr 2 (by omega)
                                have r3 := hr 3 (by omega)
                                have r4 := hr 4 (by omega)
                                have r5 := hr 5 (by omega)
                                have r6 := hr 6 (by omega)
                                have r7 := hr 7 (by omega)
                                simp only [Nat.add_zero, List.getElem?_cons_zero, List.getElem?_cons_succ] at r0 r1 r2 r3 r4 r5 r6 r7
                                have p1 := fun O => cell_alloc hp O
                                clear hr hc8 hF
                                go_wp2_with fail
                                go_quiet (fail)
                                go_wp2_with fail
                                go_roundg (K - (j + 1))
                                case measure => omega
                                case rel => exact ⟨j + 1, _, by omega, rfl, by go_num, hidden (by have := HXk.out; omega), (HSq.out.below ((Below.refl _ _).alloc (Nat.le_refl _) _)).below (below_drewN (Below.refl _ _) _)⟩
                              · rw [hF] at hp
                                rw [hc8] at hr
                                have r0 := hr 0 (by omega)
                                have r1 := hr 1 (by omega)
                                have r2 := hr 2 (by omega)
                                have r3 := hr 3 (by omega)
                                have r4 := hr 4 (by omega)
                                have r5 := hr 5 (by omega)
                                have r6 := hr 6 (by omega)
                                have r7 := hr 7 (by omega)
                                simp only [Nat.add_zero, List.getElem?_cons_zero, List.getElem?_cons_succ] at r0 r1 r2 r3 r4 r5 r6 r7
                                have p1 := fun O => cell_alloc hp O
                                clear hr hc8 hF
                                go_wp2_with fail
                                go_quiet (fail)
                                go_wp2_with fail
                                go_roundg (K - (j + 1))
                                case measure => omega
                                case rel => exact ⟨j + 1, _, by omega, rfl, by go_num, hidden (by have := HXk.out; omega), (HSq.out.below ((Below.refl _ _).alloc (Nat.le_refl _) _)).below (below_drewN (Below.refl _ _) _)⟩
                            · have hjz : ¬ (j : Int) < (K : Int) := by omega
                              obtain rfl : j = K := by omega
                              go_wp2_with fail
                              go_roundg (80 - (k + 1))
                              case measure => omega
                              case rel => exact ⟨k + 1, now2, now2, xk, _, F2, by omega, rfl, rfl, by go_num, hidden ⟨by omega, hn0, HNw.out.2⟩, by rw [HXk.out]; exact HSq.out.fin⟩

theorem walk (wt : Int) (al at_ : Option Addr) (ll cl lt ct : Nat) (Z Y : Nat → Int) (w : World) (hll : ll ≤ 9223372036854775807) (hlt : lt ≤ 9223372036854775807)
    (hZ : ∀ j, j < ll → ∃ b o, al = some ⟨b, o, none⟩ ∧ b < w.heap.size ∧ w.cell? ⟨b, o + j, none⟩ = some (.int .i64 (Z j)))
    (hY : ∀ j, j < lt → ∃ b o, at_ = some ⟨b, o, none⟩ ∧ b < w.heap.size ∧ w.cell? ⟨b, o + j, none⟩ = some (.int .i64 (Y j))) :
    Calls Try.prog 3 #[.int .i64 wt, .slice al ll cl, .slice at_ lt ct] w fun e w' => e = .returned (.bool true) ∧ Below w.heap.size w w' := by
  by_cases c : wt < 0
  · exact walk_neg wt _ _ w c
  by_cases c1 : 1000000 < wt
  · exact walk_big wt _ _ w c1
  by_cases c2 : 1000 < wt
  · exact walk_far wt _ _ w c2 (by omega)
  · exact walk_in wt al at_ ll cl lt ct Z Y w (by omega) (by omega) hll hlt hZ hY
end Go.Proofs.Ytenjemcehhocoae.ORow
