/-
  The walk of the Go function LinkStays: it returns true at any two numbers and any times.
-/
import Derived.Test.YtfdbfelcokockahLinkS
import Derived.LoopTactic
import Derived.Deep.LoopGhost
namespace Go.Proofs.Ytfdbfelcokockah.Stays
open Go.ChangeShapes Go.WideShapes Go.ChangeAt Go.RowKit Go.Proofs.Ytfdbfelcokockah.Mem Go.Proofs.Ytfdbfelcokockah.LK Go.Proofs.Ytfdbfelcokockah.Link
set_option linter.unusedVariables false

/-- two Links that are Warm with each other, and heard and said at h, s -/
def Wm (nw me ot h s : Int) : Lk := ⟨nw, me, 2, ot, h, s⟩
theorem inv_wm {nw me ot h s : Int} (n0 : 0 ≤ nw) (n1 : nw ≤ 1000000) (m0 : 1 ≤ me) (m1 : me ≤ 1000000) (o0 : 1 ≤ ot) (o1 : ot ≤ 1000000) (h0 : 0 ≤ h) (h1 : h ≤ nw) (s0 : 0 ≤ s) (s1 : s ≤ nw) : Inv (Wm nw me ot h s) := by
  constructor <;> simp only [Wm] <;> omega
theorem st_open {w W : World} {x y : Nat} {a b : Int} (h : TSt w W x y (st0 a) (st0 b)) :
    Calls Try.prog 18 #[.pointer (some ⟨x, 0, none⟩), .int .i64 0] W fun e w' => ∃ g, e = .returned (.tuple #[.slice (some ⟨g, 0, none⟩) 3 3, .nilIface]) ∧ Hid (TSt w w' x y ⟨0, a, 1, 0, 0, 0⟩ (st0 b) ∧ Msg w' g 1 a 0) := by
  have ht : tf (st0 a).nw 0 = 0 := tf_ok (by omega) (by omega) (Int.le_refl _)
  have hs : (st0 a).st ≠ 2 := by simp [st0]
  refine (x_open h 0).mono ?_
  rintro e w' ⟨v, rfl, h1, h2, _⟩
  rw [oR_ok ht hs] at h1 h2
  rw [oF_ok ht hs]
  obtain ⟨g, rfl, h3⟩ := out_some h2
  exact ⟨g, rfl, h1, h3⟩
theorem st_hear1 {w W : World} {x y g : Nat} {a b : Int} (a0 : 1 ≤ a) (a1 : a ≤ 1000000) (h : TSt w W x y ⟨0, a, 1, 0, 0, 0⟩ (st0 b)) (hm : Msg W g 1 a 0) :
    Calls Try.prog 19 #[.pointer (some ⟨y, 0, none⟩), .slice (some ⟨g, 0, none⟩) 3 3, .int .i64 0] W fun e w' => ∃ g', e = .returned (.tuple #[.slice (some ⟨g', 0, none⟩) 3 3, .nilIface]) ∧ Hid (TSt w w' x y ⟨0, a, 1, 0, 0, 0⟩ (Wm 0 b a 0 0) ∧ Msg w' g' 2 b a) := by
  have ht : tf (st0 b).nw 0 = 0 := tf_ok (by omega) (by omega) (Int.le_refl _)
  have hf : mf [1, a, 0] = 0 := mf_three (by omega) (by omega) a0 a1 (by omega) (by omega)
  have e : her (st0 b) 1 a 0 0 = (Wm 0 b a 0 0, [2, b, a]) := by
    unfold her ans
    rw [if_neg (by simp), if_neg (by simp [st0]; omega), if_pos rfl]
    rfl
  refine (y_hear h hm 0).mono ?_
  rintro e' w' ⟨v, rfl, h1, h2, _⟩
  rw [hR_three ht hf, e] at h1 h2
  rw [hF_three ht hf]
  obtain ⟨g, rfl, h3⟩ := out_some h2
  exact ⟨g, rfl, h1, h3⟩
theorem st_hear2 {w W : World} {x y g : Nat} {a b : Int} (a0 : 1 ≤ a) (a1 : a ≤ 1000000) (b0 : 1 ≤ b) (b1 : b ≤ 1000000) (h : TSt w W x y ⟨0, a, 1, 0, 0, 0⟩ (Wm 0 b a 0 0)) (hm : Msg W g 2 b a) :
    Calls Try.prog 19 #[.pointer (some ⟨x, 0, none⟩), .slice (some ⟨g, 0, none⟩) 3 3, .int .i64 0] W fun e w' => ∃ g', e = .returned (.tuple #[.slice (some ⟨g', 0, none⟩) 3 3, .nilIface]) ∧ Hid (TSt w w' x y (Wm 0 a b 0 0) (Wm 0 b a 0 0) ∧ Msg w' g' 3 a b) := by
  have ht : tf (Lk.mk 0 a 1 0 0 0).nw 0 = 0 := tf_ok (by omega) (by omega) (Int.le_refl _)
  have hf : mf [2, b, a] = 0 := mf_three (by omega) (by omega) b0 b1 (by omega) a1
  have e : her ⟨0, a, 1, 0, 0, 0⟩ 2 b a 0 = (Wm 0 a b 0 0, [3, a, b]) := by
    unfold her ans
    rw [if_neg (by simp), if_neg (by simp; omega), if_neg (by omega), if_neg (by simp; omega)]
    rfl
  refine (x_hear h hm 0).mono ?_
  rintro e' w' ⟨v, rfl, h1, h2, _⟩
  rw [hR_three ht hf, e] at h1 h2
  rw [hF_three ht hf]
  obtain ⟨g, rfl, h3⟩ := out_some h2
  exact ⟨g, rfl, h1, h3⟩
/-- an alive of the one that it is Warm with -/
theorem her_alive (nw me ot h s now : Int) : her (Wm nw me ot h s) 3 ot me now = (Wm now me ot now s, []) := by
  unfold her ans
  rw [if_neg (by simp [Wm]), if_neg (by simp [Wm]), if_neg (by omega), if_pos (by simp [Wm])]
  rfl
theorem y_alive {w W : World} {x y g : Nat} {a b nw h s now : Int} {t : Lk} (a0 : 1 ≤ a) (a1 : a ≤ 1000000) (b0 : 1 ≤ b) (b1 : b ≤ 1000000) (ht : tf nw now = 0) (hT : TSt w W x y t (Wm nw b a h s)) (hm : Msg W g 3 a b) :
    Calls Try.prog 19 #[.pointer (some ⟨y, 0, none⟩), .slice (some ⟨g, 0, none⟩) 3 3, .int .i64 now] W fun e w' => e = .returned (.tuple #[.slice none 0 0, .nilIface]) ∧ TSt w w' x y t (Wm now b a now s) ∧ Only [y] W w' := by
  have hf : mf [3, a, b] = 0 := mf_three (by omega) (by omega) a0 a1 (by omega) b1
  have ht' : tf (Wm nw b a h s).nw now = 0 := ht
  refine (y_hear hT hm now).mono ?_
  rintro e' w' ⟨v, rfl, h1, h2, h3⟩
  rw [hR_three ht' hf, her_alive] at h1 h2
  rw [hF_three ht' hf, out_none h2]
  exact ⟨rfl, h1, h3⟩
theorem x_alive {w W : World} {x y g : Nat} {a b nw h s now : Int} {t : Lk} (a0 : 1 ≤ a) (a1 : a ≤ 1000000) (b0 : 1 ≤ b) (b1 : b ≤ 1000000) (ht : tf nw now = 0) (hT : TSt w W x y (Wm nw a b h s) t) (hm : Msg W g 3 b a) :
    Calls Try.prog 19 #[.pointer (some ⟨x, 0, none⟩), .slice (some ⟨g, 0, none⟩) 3 3, .int .i64 now] W fun e w' => e = .returned (.tuple #[.slice none 0 0, .nilIface]) ∧ TSt w w' x y (Wm now a b now s) t := by
  have hf : mf [3, b, a] = 0 := mf_three (by omega) (by omega) b0 b1 (by omega) a1
  have ht' : tf (Wm nw a b h s).nw now = 0 := ht
  refine (x_hear hT hm now).mono ?_
  rintro e' w' ⟨v, rfl, h1, h2, h3⟩
  rw [hR_three ht' hf, her_alive] at h1 h2
  rw [hF_three ht' hf, out_none h2]
  exact ⟨rfl, h1⟩
theorem tck_none {nw me ot h now : Int} (h0 : now - h < 10) : tck (Wm nw me ot h h) now = (Wm now me ot h h, []) := by
  unfold tck
  rw [if_neg (by simp [Wm]; omega), if_pos (by simp [Wm]; omega)]
  rfl
theorem tck_says {nw me ot h now : Int} (h0 : 10 ≤ now - h) (h1 : now - h < 30) : tck (Wm nw me ot h h) now = (Wm now me ot h now, [3, me, ot]) := by
  unfold tck
  rw [if_neg (by simp [Wm]; omega), if_neg (by simp [Wm]; omega), if_pos (show (Wm nw me ot h h).st = 2 from rfl)]
  rfl
/-- between two rounds: i have been -/
structure Met (w W : World) (x y : Nat) (a b nw h : Int) : Prop where
  st : TSt w W x y (Wm nw a b h h) (Wm nw b a h h)
  h0 : 0 ≤ h
  h1 : h ≤ nw
  h2 : nw - h < 10
theorem Met.cells {w W : World} {x y : Nat} {a b nw h : Int} (hM : Met w W x y a b nw h) : W.cell? ⟨x, 2, none⟩ = some (.int .i64 2) ∧ W.cell? ⟨x, 3, none⟩ = some (.int .i64 b) ∧ W.cell? ⟨y, 2, none⟩ = some (.int .i64 2) ∧ W.cell? ⟨y, 3, none⟩ = some (.int .i64 a) := by
  obtain ⟨_, _, c2, c3, _⟩ := L6.cells hM.st.ax
  obtain ⟨_, _, d2, d3, _⟩ := L6.cells hM.st.ay
  exact ⟨c2, c3, d2, d3⟩

set_option maxHeartbeats 1000000 in
set_option maxRecDepth 100000 in
theorem walk_bad1 (a b : Int) (vt : Value) (w : World) (h : a < 1 ∨ 1000000 < a) :
    Calls Try.prog 7 #[.int .i64 a, .int .i64 b, vt] w fun e w' => e = .returned (.bool true) ∧ Below w.heap.size w w' := by
  have HN := hidden (new_err a w h)
  have HM := hidden (new_any b w)
  rw [errv_pos (by decide)] at HN
  clear h
  go_enter Try.func7, Try.ntmps7
  go_wp2_with fail
  refine HN.out.mono ?_
  rintro e w1 ⟨rfl, hw⟩
  obtain rfl := hw.symm
  go_wp2_with fail
  refine HM.out.mono ?_
  rintro e w2 ⟨p, ev, rfl, hb⟩
  have HB := hidden hb
  clear hb
  go_wp2_with fail
  go_ret
  exact ⟨rfl, HB.out⟩
set_option maxHeartbeats 1000000 in
set_option maxRecDepth 100000 in
theorem walk_bad2 (a b : Int) (vt : Value) (w : World) (a0 : 1 ≤ a) (a1 : a ≤ 1000000) (h : b < 1 ∨ 1000000 < b) :
    Calls Try.prog 7 #[.int .i64 a, .int .i64 b, vt] w fun e w' => e = .returned (.bool true) ∧ Below w.heap.size w w' := by
  have HN := hidden (new_ok a w a0 a1)
  have HM := hidden (fun W => new_err b W h)
  rw [errv_pos (by decide)] at HM
  clear h
  go_enter Try.func7, Try.ntmps7
  go_wp2_with fail
  refine HN.out.mono ?_
  rintro e w1 ⟨rfl, hl, hb⟩
  have HB := hidden hb
  clear hb hl
  go_wp2_with fail
  refine (HM.out _).mono ?_
  rintro e w2 ⟨rfl, hw⟩
  obtain rfl := hw.symm
  go_wp2_with fail
  go_ret
  exact ⟨rfl, HB.out⟩
set_option maxHeartbeats 4000000 in
set_option maxRecDepth 100000 in
theorem walk_ok (a b : Int) (ta : Option Addr) (nt cap : Nat) (Z : List Int) (w : World) (a0 : 1 ≤ a) (a1 : a ≤ 1000000) (b0 : 1 ≤ b) (b1 : b ≤ 1000000) (hA : IArg w ta nt Z) :
    Calls Try.prog 7 #[.int .i64 a, .int .i64 b, .slice ta nt cap] w fun e w' => e = .returned (.bool true) ∧ Below w.heap.size w w' := by
  have HN := hidden (new_ok a w a0 a1)
  have HM := hidden (fun W => new_ok b W b0 b1)
  have HA := hidden hA
  have hnt := hA.2.2
  clear hA
  go_enter Try.func7, Try.ntmps7
  go_wp2_with fail
  refine HN.out.mono ?_
  rintro e w1 ⟨rfl, hl, hb⟩
  have HB := hidden hb
  have HL := hidden hl
  obtain ⟨x, hx⟩ : ∃ x, w.heap.size = x := ⟨_, rfl⟩
  rw [hx] at HL
  rw [hx]
  have HX := hidden hx
  clear hb hl hx HN
  go_wp2_with fail
  refine (HM.out _).mono ?_
  rintro e w2 ⟨rfl, hl, hb⟩
  have HT : Hid (TSt w w2 x w1.heap.size (st0 a) (st0 b)) := by
    refine ⟨HB.out.trans (hb.mono HB.out.size), by rw [HX.out]; exact Nat.le_refl _, HB.out.size, ?_, HL.out.below hb, hl⟩
    have := L6.lt HL.out
    omega
  obtain ⟨y, hy⟩ : ∃ y, w1.heap.size = y := ⟨_, rfl⟩
  rw [hy] at HT
  rw [hy]
  clear hb hl hy HM HL HB HX
  go_wp2_with fail
  refine (st_open HT.out).mono ?_
  rintro e w3 ⟨g1, rfl, H3⟩
  clear HT
  go_wp2_with fail
  refine (st_hear1 a0 a1 H3.out.1 H3.out.2).mono ?_
  rintro e w4 ⟨g2, rfl, H4⟩
  clear H3
  go_wp2_with fail
  refine (st_hear2 a0 a1 b0 b1 H4.out.1 H4.out.2).mono ?_
  rintro e w5 ⟨g3, rfl, H5⟩
  clear H4
  go_wp2_with fail
  refine (y_alive a0 a1 b0 b1 (tf_ok (by omega) (by omega) (Int.le_refl _)) H5.out.1 H5.out.2).mono ?_
  rintro e w6 ⟨rfl, h6, _⟩
  have H6 : Hid (Met w w6 x y a b 0 0) := ⟨h6, by omega, by omega, by omega⟩
  clear H5 h6
  go_wp2_with fail
  go_loopg [19, 20] 60 (fun g n' i' wr => ∃ (i : Nat) (nw h : Int), i + g = 60 ∧ n' = .int .i64 nw ∧ i' = .int .i64 (i : Int) ∧ nw ≤ 10 * (i : Int) ∧ Hid (Met w wr x y a b nw h))
  case atStart => exact ⟨0, 0, 0, by omega, rfl, rfl, by omega, H6⟩
  case round =>
    obtain ⟨i, nw, h, hig, rfl, rfl, hni, HS⟩ := hrel
    clear H6
    by_cases hi : i < nt
    case neg =>
      have d1 : decide ((i : Int) < (nt : Int)) = false := decide_eq_false (by omega)
      go_wp2_with fail
      go_ret
      exact ⟨rfl, HS.out.st.bel⟩
    have hiz : (i : Int) < (nt : Int) := by omega
    by_cases h60 : i < 60
    case neg =>
      have h60z : ¬ (i : Int) < 60 := by omega
      go_wp2_with fail
      go_ret
      exact ⟨rfl, HS.out.st.bel⟩
    have h60z : (i : Int) < 60 := by omega
    obtain ⟨tb, to, rfl, hc⟩ := (HA.out.below HS.out.st.bel).at (by omega)
    have ct := hc i hi
    clear hc
    generalize Z.getD i 0 = d at *
    by_cases p0 : d < 0
    · have d2 : decide (d < 0) = true := decide_eq_true p0
      go_wp2_with fail
      go_roundg (60 - (i + 1))
      case measure => omega
      case rel => exact ⟨i + 1, nw, h, by omega, rfl, by go_num, by omega, HS⟩
    by_cases p1 : 10 < d
    · have d2 : decide (d < 0) = false := decide_eq_false p0
      have d3 : decide (10 < d) = true := decide_eq_true p1
      go_wp2_with fail
      go_roundg (60 - (i + 1))
      case measure => omega
      case rel => exact ⟨i + 1, nw, h, by omega, rfl, by go_num, by omega, HS⟩
    have d2 : decide (d < 0) = false := decide_eq_false p0
    have d3 : decide (10 < d) = false := decide_eq_false p1
    have g0 := HS.out.h0
    have g1 := HS.out.h1
    have g2 := HS.out.h2
    have ht : Hid (tf nw (nw + d) = 0) := tf_ok (by omega) (by omega) (by omega)
    have HIx : Hid (Inv (Wm nw a b h h)) := inv_wm (by omega) (by omega) a0 a1 b0 b1 g0 g1 g0 g1
    have HIy : Hid (Inv (Wm nw b a h h)) := inv_wm (by omega) (by omega) b0 b1 a0 a1 g0 g1 g0 g1
    have hw0 : IntKind.i64.wrap (nw + d) = nw + d := by rw [IntKind.wrap_i64]; omega
    obtain ⟨nx, hnx⟩ : ∃ nx, nw + d = nx := ⟨_, rfl⟩
    rw [hnx] at ht hw0
    by_cases q : nx - h < 10
    · have HX0 : Hid (∀ W, TSt w W x y (Wm nw a b h h) (Wm nw b a h h) → Calls Try.prog 20 #[.pointer (some ⟨x, 0, none⟩), .int .i64 nx] W fun e w' => e = .returned (.tuple #[.slice none 0 0, .nilIface]) ∧ Hid (TSt w w' x y (Wm nx a b h h) (Wm nw b a h h))) := by
        intro W hW
        refine (x_tick hW HIx.out nx).mono ?_
        rintro e w' ⟨v, rfl, h1, h2, _⟩
        rw [tR_ok (by exact ht.out), tck_none q] at h1 h2
        rw [show tf (Wm nw a b h h).nw nx = 0 from ht.out, out_none h2]
        exact ⟨rfl, h1⟩
      have HY0 : Hid (∀ W, TSt w W x y (Wm nx a b h h) (Wm nw b a h h) → Calls Try.prog 20 #[.pointer (some ⟨y, 0, none⟩), .int .i64 nx] W fun e w' => e = .returned (.tuple #[.slice none 0 0, .nilIface]) ∧ Hid (TSt w w' x y (Wm nx a b h h) (Wm nx b a h h))) := by
        intro W hW
        refine (y_tick hW HIy.out nx).mono ?_
        rintro e w' ⟨v, rfl, h1, h2, _⟩
        rw [tR_ok (by exact ht.out), tck_none q] at h1 h2
        rw [show tf (Wm nw b a h h).nw nx = 0 from ht.out, out_none h2]
        exact ⟨rfl, h1⟩
      have HNX := hidden hnx
      have HQ := hidden q
      clear hnx q HIx HIy ht
      go_wp2_with fail
      rw [HNX.out]
      refine (HX0.out _ HS.out.st).mono ?_
      rintro e w11 ⟨rfl, H11⟩
      clear HX0
      go_wp2_with fail
      refine (HY0.out _ H11.out).mono ?_
      rintro e w12 ⟨rfl, H12⟩
      have HM2 : Hid (Met w w12 x y a b nx h) := ⟨H12.out, g0, by have := HNX.out; omega, HQ.out⟩
      clear HY0 H11 H12 HS ct
      obtain ⟨c1, c2, c3, c4⟩ := HM2.out.cells
      go_wp2_with fail
      refine (state_calls x 2 w12 c1).mono ?_
      rintro e w13 ⟨rfl, hw⟩
      obtain rfl := hw.symm
      go_wp2_with fail
      refine (state_calls y 2 _ c3).mono ?_
      rintro e w14 ⟨rfl, hw⟩
      obtain rfl := hw.symm
      go_wp2_with fail
      refine (other_calls x b _ c2).mono ?_
      rintro e w15 ⟨rfl, hw⟩
      obtain rfl := hw.symm
      go_wp2_with fail
      refine (other_calls y a _ c4).mono ?_
      rintro e w16 ⟨rfl, hw⟩
      obtain rfl := hw.symm
      go_wp2_with fail
      go_roundg (60 - (i + 1))
      case measure => omega
      case rel => exact ⟨i + 1, nx, h, by omega, rfl, by go_num, by have := HNX.out; omega, HM2⟩
    · have HX0 : Hid (∀ W, TSt w W x y (Wm nw a b h h) (Wm nw b a h h) → Calls Try.prog 20 #[.pointer (some ⟨x, 0, none⟩), .int .i64 nx] W fun e w' => ∃ g, e = .returned (.tuple #[.slice (some ⟨g, 0, none⟩) 3 3, .nilIface]) ∧ Hid (TSt w w' x y (Wm nx a b h nx) (Wm nw b a h h) ∧ Msg w' g 3 a b)) := by
        intro W hW
        refine (x_tick hW HIx.out nx).mono ?_
        rintro e w' ⟨v, rfl, h1, h2, _⟩
        rw [tR_ok (by exact ht.out), tck_says (by omega) (by omega)] at h1 h2
        obtain ⟨g, rfl, h3⟩ := out_some h2
        rw [show tf (Wm nw a b h h).nw nx = 0 from ht.out]
        exact ⟨g, rfl, h1, h3⟩
      have HY0 : Hid (∀ W g, TSt w W x y (Wm nx a b h nx) (Wm nw b a h h) ∧ Msg W g 3 a b → Calls Try.prog 20 #[.pointer (some ⟨y, 0, none⟩), .int .i64 nx] W fun e w' => ∃ g', e = .returned (.tuple #[.slice (some ⟨g', 0, none⟩) 3 3, .nilIface]) ∧ Hid (TSt w w' x y (Wm nx a b h nx) (Wm nx b a h nx) ∧ Msg w' g 3 a b ∧ Msg w' g' 3 b a)) := by
        rintro W g ⟨hW, hg⟩
        refine (y_tick hW HIy.out nx).mono ?_
        rintro e w' ⟨v, rfl, h1, h2, ho⟩
        rw [tR_ok (by exact ht.out), tck_says (by omega) (by omega)] at h1 h2
        obtain ⟨g', rfl, h3⟩ := out_some h2
        rw [show tf (Wm nw b a h h).nw nx = 0 from ht.out]
        exact ⟨g', rfl, h1, hg.only ho (by simp; exact hg.ne_y hW), h3⟩
      have HT2 : Hid (tf nx nx = 0) := by have := tf_zero ht.out; exact tf_ok (by omega) (by omega) (Int.le_refl _)
      have HNX := hidden hnx
      clear hnx q HIx HIy ht
      go_wp2_with fail
      rw [HNX.out]
      refine (HX0.out _ HS.out.st).mono ?_
      rintro e w11 ⟨ga, rfl, H11⟩
      clear HX0
      go_wp2_with fail
      refine (HY0.out _ ga H11.out).mono ?_
      rintro e w12 ⟨gb, rfl, H12⟩
      clear HY0 H11 HS ct
      go_wp2_with fail
      refine (y_alive a0 a1 b0 b1 HT2.out H12.out.1 H12.out.2.1).mono ?_
      rintro e w13 ⟨rfl, h13, ho13⟩
      have H13 : Hid (TSt w w13 x y (Wm nx a b h nx) (Wm nx b a nx nx) ∧ Msg w13 gb 3 b a) := ⟨h13, H12.out.2.2.only ho13 (by simp; exact H12.out.2.2.ne_y H12.out.1)⟩
      clear H12 h13 ho13
      go_wp2_with fail
      refine (x_alive a0 a1 b0 b1 HT2.out H13.out.1 H13.out.2).mono ?_
      rintro e w17 ⟨rfl, h17⟩
      have HM2 : Hid (Met w w17 x y a b nx nx) := ⟨h17, by have := HNX.out; omega, by omega, by omega⟩
      clear H13 h17
      obtain ⟨c1, c2, c3, c4⟩ := HM2.out.cells
      go_wp2_with fail
      refine (state_calls x 2 _ c1).mono ?_
      rintro e w13 ⟨rfl, hw⟩
      obtain rfl := hw.symm
      go_wp2_with fail
      refine (state_calls y 2 _ c3).mono ?_
      rintro e w14 ⟨rfl, hw⟩
      obtain rfl := hw.symm
      go_wp2_with fail
      refine (other_calls x b _ c2).mono ?_
      rintro e w15 ⟨rfl, hw⟩
      obtain rfl := hw.symm
      go_wp2_with fail
      refine (other_calls y a _ c4).mono ?_
      rintro e w16 ⟨rfl, hw⟩
      obtain rfl := hw.symm
      go_wp2_with fail
      go_roundg (60 - (i + 1))
      case measure => omega
      case rel => exact ⟨i + 1, nx, nx, by omega, rfl, by go_num, by have := HNX.out; omega, HM2⟩
theorem walk (a b : Int) (ta : Option Addr) (nt cap : Nat) (Z : List Int) (w : World) (hA : IArg w ta nt Z) :
    Calls Try.prog 7 #[.int .i64 a, .int .i64 b, .slice ta nt cap] w fun e w' => e = .returned (.bool true) ∧ Below w.heap.size w w' := by
  by_cases ha : a < 1 ∨ 1000000 < a
  · exact walk_bad1 a b _ w ha
  by_cases hb : b < 1 ∨ 1000000 < b
  · exact walk_bad2 a b _ w (by omega) (by omega) hb
  · exact walk_ok a b ta nt cap Z w (by omega) (by omega) (by omega) (by omega) hA
end Go.Proofs.Ytfdbfelcokockah.Stays
