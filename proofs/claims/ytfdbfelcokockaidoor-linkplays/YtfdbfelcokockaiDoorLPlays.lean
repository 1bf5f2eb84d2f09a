/-
  The walk of the Go function LinkPlays: it returns true at any number and any two rows of rows of numbers. Its condition: package errors' variable errorType is as its text lays it.
-/
import Derived.Test.YtfdbfelcokockaiDoorRLinkB
import Derived.Test.YtfdbfelcokockaiDoorOpenS
import Derived.Test.YtfdbfelcokockaiDoorTold
import Derived.LoopTactic
import Derived.Deep.LoopGhost
import Derived.Deep.CutRange
import Derived.Deep.CutBlock
import Derived.Deep.RegionHeld3
namespace Go.Proofs.YtfdbfelcokockaiDoor.LPlays
open Go.ChangeShapes Go.WideShapes Go.ChangeAt Go.RowKit Go.Proofs.YtfdbfelcokockaiDoor.Mem Go.Proofs.YtfdbfelcokockaiDoor.LK Go.Proofs.YtfdbfelcokockaiDoor.Link Go.Proofs.YtfdbfelcokockaiDoor.RLink
set_option linter.unusedVariables false

/-- three numbers in memory -/
def V3 (w : World) (vb : Nat) (v0 v1 v2 : Int) : Prop := w.heap[vb]? = some (.cells #[.int .i64 v0, .int .i64 v1, .int .i64 v2] 32 (0, 0))
theorem v3_cells {w : World} {vb : Nat} {v0 v1 v2 : Int} (h : V3 w vb v0 v1 v2) : w.cell? ⟨vb, 0, none⟩ = some (.int .i64 v0) ∧ w.cell? ⟨vb, 1, none⟩ = some (.int .i64 v1) ∧ w.cell? ⟨vb, 2, none⟩ = some (.int .i64 v2) := by
  unfold V3 at h
  refine ⟨?_, ?_, ?_⟩ <;> simp [World.cell?, h]
theorem v3_cell {w : World} {vb : Nat} {v0 v1 v2 : Int} (h : V3 w vb v0 v1 v2) (j : Nat) (hj : j < 3) : ∃ x, w.cell? ⟨vb, j, none⟩ = some (.int .i64 x) := by
  obtain ⟨c0, c1, c2⟩ := v3_cells h
  match j, hj with
  | 0, _ => exact ⟨_, c0⟩
  | 1, _ => exact ⟨_, c1⟩
  | 2, _ => exact ⟨_, c2⟩
theorem v3_set {w : World} {vb : Nat} {v0 v1 v2 : Int} (h : V3 w vb v0 v1 v2) (j : Nat) (hj : j < 3) (x : Int) : ∃ u0 u1 u2, V3 (w.setCell ⟨vb, j, none⟩ (.int .i64 x)) vb u0 u1 u2 := by
  have hs := fun j => heap_setCell_same w vb j _ 32 (.int .i64 x) h
  match j, hj with
  | 0, _ => exact ⟨x, v1, v2, hs 0⟩
  | 1, _ => exact ⟨v0, x, v2, hs 1⟩
  | 2, _ => exact ⟨v0, v1, x, hs 2⟩
theorem v3_free {w : World} {vb : Nat} {v0 v1 v2 : Int} (h : V3 w vb v0 v1 v2) (j : Nat) : w.frozen? ⟨vb, j, none⟩ = false := by
  unfold V3 at h
  simp [World.frozen?, h]
/-- an error of a number is the one told -/
theorem told_f (f : Nat) (W : World) (hf : f ≤ 100) (hg : W.cell? ⟨0, 0, none⟩ = some (.iface 72 (.agg #[.pointer (some ⟨1, 25, none⟩)]))) :
    Calls Tryd.prog 5 #[errv f, .int .i64 (f : Int)] W fun e w' => e = .returned (.bool true) ∧ Below W.heap.size W w' := by
  by_cases h0 : f = 0
  · subst h0
    refine (Told.same_nil 0 W).mono ?_
    rintro e w' ⟨rfl, rfl⟩
    exact ⟨rfl, Below.refl _ _⟩
  · rw [errv_pos h0]
    refine (Told.same_err f f W (by omega) (by omega) hg).mono ?_
    rintro e w' ⟨rfl, hb⟩
    exact ⟨by simp, hb⟩
theorem ints_same (a b : Option Addr) (n cap cap' : Nat) (L : List Int) (w : World) (hA : IArg w a n L) (hB : IArg w b n L) :
    Calls Tryd.prog 12 #[.slice a n cap, .slice b n cap'] w fun e w' => e = .returned (.bool true) ∧ Below w.heap.size w w' := by
  have hn := hA.2.2
  have HA := hidden hA
  have HB := hidden hB
  clear hA hB
  go_enter Tryd.func12, Tryd.ntmps12
  go_wp2_with fail
  go_loopg [5] n (fun g y wr => ∃ (i : Nat), i + g = n ∧ y = .int .i64 (i : Int) ∧ Hid (Below w.heap.size w wr))
  case atStart => exact ⟨0, by omega, rfl, Below.refl _ _⟩
  case round =>
    obtain ⟨i, hig, rfl, HW⟩ := hrel
    by_cases hi : i < n
    · have hiz : (i : Int) < (n : Int) := by omega
      obtain ⟨b1, o1, rfl, h1⟩ := (HA.out.below HW.out).at (by omega)
      obtain ⟨b2, o2, rfl, h2⟩ := (HB.out.below HW.out).at (by omega)
      have c1 := h1 i hi
      have c2 := h2 i hi
      clear h1 h2
      generalize L.getD i 0 = x at *
      go_wp2_with fail
      go_quiet (fail)
      go_wp2_with fail
      go_roundg (n - (i + 1))
      case measure => omega
      case rel => exact ⟨i + 1, by omega, by go_num, hidden (below_drewN HW.out _)⟩
    · have hiz : ¬ (i : Int) < (n : Int) := by omega
      go_wp2_with fail
      go_ret
      exact ⟨rfl, HW.out⟩

/-- package link's and the reference's, side by side -/
structure PSt (w W : World) (b rb : Nat) (s r : Lk) : Prop where
  bel : Below w.heap.size w W
  lb : w.heap.size ≤ b
  lr : w.heap.size ≤ rb
  link : LAt W b s
  ref : RAt W rb r
theorem PSt.below {w W W' : World} {b rb : Nat} {s r : Lk} (h : PSt w W b rb s r) (hb : Below W.heap.size W W') : PSt w W' b rb s r :=
  ⟨h.bel.trans (hb.mono h.bel.size), h.lb, h.lr, h.link.below hb, h.ref.below hb⟩
theorem PSt.ne {w W : World} {b rb : Nat} {s r : Lk} (h : PSt w W b rb s r) : b ≠ rb := by
  intro e
  have h1 : W.heap[b]? = _ := h.link
  rw [e] at h1
  have h2 : W.heap[rb]? = _ := h.ref
  rw [h1] at h2
  simp at h2
theorem PSt.links {w W W' : World} {b rb : Nat} {s s' r : Lk} (h : PSt w W b rb s r) (hl : LAt W' b s') (ho : Only [b] W W') : PSt w W' b rb s' r :=
  ⟨h.bel.trans (ho.below h.bel.size (by simp; exact h.lb)), h.lb, h.lr, hl, h.ref.only ho (by simp; exact h.ne.symm)⟩
theorem PSt.refs {w W W' : World} {b rb : Nat} {s r r' : Lk} (h : PSt w W b rb s r) (hl : RAt W' rb r') (ho : Only [rb] W W') : PSt w W' b rb s r' :=
  ⟨h.bel.trans (ho.below h.bel.size (by simp; exact h.lr)), h.lb, h.lr, h.link.only ho (by simp; exact h.ne), hl⟩
theorem v3_only {W W' : World} {vb b : Nat} {v0 v1 v2 : Int} (h : V3 W vb v0 v1 v2) (ho : Only [b] W W') (hb : vb ≠ b) : V3 W' vb v0 v1 v2 := ho.block h (by simpa using hb)
theorem v3_ne_b {w W : World} {b rb vb : Nat} {s r : Lk} {v0 v1 v2 : Int} (h : PSt w W b rb s r) (hv : V3 W vb v0 v1 v2) : vb ≠ b ∧ vb ≠ rb := by
  have h3 : W.heap[vb]? = _ := hv
  constructor
  · rintro rfl
    have h1 : W.heap[vb]? = _ := h.link
    rw [h3] at h1
    simp at h1
  · rintro rfl
    have h1 : W.heap[vb]? = _ := h.ref
    rw [h3] at h1
    simp at h1
/-- behind a call of each: what goes out of both -/
def Both (w W : World) (b rb : Nat) (s : Lk) (v r : Value) : Prop := ∃ O, PSt w W b rb s s ∧ Out W v O ∧ Out W r O
theorem r_open {w W : World} {b rb vb : Nat} {s : Lk} {v0 v1 v2 : Int} (h : PSt w W b rb s s) (hI : Inv s) (hv : V3 W vb v0 v1 v2) (now : Int) :
    Calls Tryd.prog 6 #[.pointer (some ⟨rb, 0, none⟩), .int .i64 now] W fun e w' => ∃ v, e = .returned (.tuple #[v, .int .i64 (oF s now : Int)]) ∧ Hid (PSt w w' b rb s (oR s now).1 ∧ V3 w' vb v0 v1 v2 ∧ Out w' v (oR s now).2) := by
  refine (ropen_calls rb s now W h.ref hI).mono ?_
  rintro e w' ⟨v, rfl, hl, hm, ho⟩
  exact ⟨v, rfl, h.refs hl ho, v3_only hv ho (v3_ne_b h hv).2, hm⟩
theorem r_tick {w W : World} {b rb vb : Nat} {s : Lk} {v0 v1 v2 : Int} (h : PSt w W b rb s s) (hI : Inv s) (hv : V3 W vb v0 v1 v2) (now : Int) :
    Calls Tryd.prog 10 #[.pointer (some ⟨rb, 0, none⟩), .int .i64 now] W fun e w' => ∃ v, e = .returned (.tuple #[v, .int .i64 (tf s.nw now : Int)]) ∧ Hid (PSt w w' b rb s (tR s now).1 ∧ V3 w' vb v0 v1 v2 ∧ Out w' v (tR s now).2) := by
  refine (rtick_calls rb s now W h.ref hI).mono ?_
  rintro e w' ⟨v, rfl, hl, hm, ho⟩
  exact ⟨v, rfl, h.refs hl ho, v3_only hv ho (v3_ne_b h hv).2, hm⟩
theorem r_hear {w W : World} {b rb vb n cap : Nat} {a : Option Addr} {L : List Int} {s : Lk} {v0 v1 v2 : Int} (h : PSt w W b rb s s) (hI : Inv s) (hv : V3 W vb v0 v1 v2) (hA : IArg w a n L) (hab : 0 < n → ∀ ad, a = some ad → ad.block < w.heap.size) (now : Int) :
    Calls Tryd.prog 8 #[.pointer (some ⟨rb, 0, none⟩), .slice a n cap, .int .i64 now] W fun e w' => ∃ v, e = .returned (.tuple #[v, .int .i64 (hF s L now : Int)]) ∧ Hid (PSt w w' b rb s (hR s L now).1 ∧ V3 w' vb v0 v1 v2 ∧ Out w' v (hR s L now).2) := by
  refine (rhear_calls rb n cap a s L now W h.ref hI (hA.below h.bel) (fun hn ad e => by have := hab hn ad e; have := h.lr; omega)).mono ?_
  rintro e w' ⟨v, rfl, hl, hm, ho⟩
  exact ⟨v, rfl, h.refs hl ho, v3_only hv ho (v3_ne_b h hv).2, hm⟩
theorem p_open {w W : World} {b rb : Nat} {s : Lk} {now : Int} {v : Value} (h : PSt w W b rb s (oR s now).1) (hm : Out W v (oR s now).2) :
    Calls Tryd.prog 7 #[.pointer (some ⟨b, 0, none⟩), .int .i64 now] W fun e w' => ∃ v', e = .returned (.tuple #[v', errv (oF s now)]) ∧ Hid (Both w w' b rb (oR s now).1 v' v) := by
  refine (open_calls b s now W h.link).mono ?_
  rintro e w' ⟨v', rfl, hl, hm', ho⟩
  exact ⟨v', rfl, _, h.links hl ho, hm', hm.past h.link (by decide) ho⟩
theorem p_tick {w W : World} {b rb : Nat} {s : Lk} {now : Int} {v : Value} (h : PSt w W b rb s (tR s now).1) (hI : Inv s) (hm : Out W v (tR s now).2) :
    Calls Tryd.prog 11 #[.pointer (some ⟨b, 0, none⟩), .int .i64 now] W fun e w' => ∃ v', e = .returned (.tuple #[v', errv (tf s.nw now)]) ∧ Hid (Both w w' b rb (tR s now).1 v' v) := by
  refine (tick_calls b s now W h.link hI).mono ?_
  rintro e w' ⟨v', rfl, hl, hm', ho⟩
  exact ⟨v', rfl, _, h.links hl ho, hm', hm.past h.link (by decide) ho⟩
theorem p_hear {w W : World} {b rb n cap : Nat} {a : Option Addr} {L : List Int} {s : Lk} {now : Int} {v : Value} (h : PSt w W b rb s (hR s L now).1) (hA : IArg w a n L) (hab : 0 < n → ∀ ad, a = some ad → ad.block < w.heap.size) (hm : Out W v (hR s L now).2) :
    Calls Tryd.prog 9 #[.pointer (some ⟨b, 0, none⟩), .slice a n cap, .int .i64 now] W fun e w' => ∃ v', e = .returned (.tuple #[v', errv (hF s L now)]) ∧ Hid (Both w w' b rb (hR s L now).1 v' v) := by
  refine (hear_calls b n cap a s L now W h.link (hA.below h.bel) (fun hn ad e => by have := hab hn ad e; have := h.lb; omega)).mono ?_
  rintro e w' ⟨v', rfl, hl, hm', ho⟩
  exact ⟨v', rfl, _, h.links hl ho, hm', hm.past h.link (by decide) ho⟩
/-- behind the switch -/
def CutR (w wx : World) (b rb : Nat) (g' r' e' n' : Value) : Prop := ∃ (v r : Value) (F : Nat) (s2 : Lk), g' = v ∧ r' = r ∧ e' = errv F ∧ n' = .int .i64 (F : Int) ∧ F ≤ 6 ∧ Hid (Inv s2 ∧ Both w wx b rb s2 v r)
/-- a row that came in: where it lies, what it holds -/
theorem row_arg {w : World} {a : Option Addr} {l : Nat} (h : Open.Row1 w a l) : ∃ L, IArg w a l L := by
  classical
  obtain ⟨hl, h⟩ := h
  have h2 : ∀ i : Fin l, ∃ x, ∃ b o, a = some ⟨b, o, none⟩ ∧ w.cell? ⟨b, o + i.val, none⟩ = some (.int .i64 x) := fun i => by
    obtain ⟨b, o, x, e, _, hc⟩ := h i.val i.isLt
    exact ⟨x, b, o, e, hc⟩
  refine ⟨List.ofFn fun i : Fin l => Classical.choose (h2 i), fun j hj => ?_, by simp, hl⟩
  rw [List.length_ofFn] at hj
  obtain ⟨b, o, e, hc⟩ := Classical.choose_spec (h2 ⟨j, hj⟩)
  refine ⟨b, o, e, ?_⟩
  rw [hc, List.getD_eq_getElem?_getD, List.getElem?_ofFn]
  simp [hj]
theorem row_lt {w : World} {a : Option Addr} {l : Nat} (h : Open.Row1 w a l) (hl : 0 < l) : ∀ ad, a = some ad → ad.block < w.heap.size := by
  intro ad e
  obtain ⟨b, o, x, e2, hb, _⟩ := h.2 0 hl
  rw [e] at e2
  simp only [Option.some.injEq] at e2
  rw [e2]
  exact hb

set_option maxHeartbeats 1000000 in
set_option maxRecDepth 100000 in
theorem walk_err (me : Int) (vs vl : Value) (w : World) (hg : w.cell? ⟨0, 0, none⟩ = some (.iface 72 (.agg #[.pointer (some ⟨1, 25, none⟩)]))) (h : me < 1 ∨ 1000000 < me) :
    Calls Tryd.prog 3 #[.int .i64 me, vs, vl] w fun e w' => e = .returned (.bool true) ∧ Below w.heap.size w w' := by
  have HN := hidden (fun w => new_err me w h)
  have HG := hidden hg
  rw [errv_pos (by decide)] at HN
  clear hg
  by_cases c0 : me < 1
  · clear h
    go_enter Tryd.func3, Tryd.ntmps3
    go_wp2_with fail
    refine (HN.out _).mono ?_
    rintro e w' ⟨rfl, hw⟩
    obtain rfl := hw.symm
    go_wp2_with fail
    refine (Told.same_err 1 1 _ (by decide) (by decide) HG.out).mono ?_
    rintro e w1 ⟨rfl, hb⟩
    have HB := hidden hb
    clear hb
    go_wp2_with fail
    go_ret
    exact ⟨rfl, HB.out⟩
  · have c1 : 1000000 < me := by omega
    clear h
    go_enter Tryd.func3, Tryd.ntmps3
    go_wp2_with fail
    refine (HN.out _).mono ?_
    rintro e w' ⟨rfl, hw⟩
    obtain rfl := hw.symm
    go_wp2_with fail
    refine (Told.same_err 1 1 _ (by decide) (by decide) HG.out).mono ?_
    rintro e w1 ⟨rfl, hb⟩
    have HB := hidden hb
    clear hb
    go_wp2_with fail
    go_ret
    exact ⟨rfl, HB.out⟩

set_option maxHeartbeats 16000000 in
set_option maxRecDepth 100000 in
theorem walk_ok (me : Int) (sa la : Option Addr) (ls cs ll cl : Nat) (Z Z2 : Nat → Int) (w : World) (hg : w.cell? ⟨0, 0, none⟩ = some (.iface 72 (.agg #[.pointer (some ⟨1, 25, none⟩)]))) (h1 : 1 ≤ me) (h2 : me ≤ 1000000) (hR : Open.NRows w sa ls Z) (hR2 : Open.NRows w la ll Z2) :
    Calls Tryd.prog 3 #[.int .i64 me, .slice sa ls cs, .slice la ll cl] w fun e w' => e = .returned (.bool true) ∧ Below w.heap.size w w' := by
  have hls := hR.1
  have HRs := hidden hR.2
  have hll := hR2.1
  have HRl := hidden hR2.2
  have HG := hidden hg
  have HN := hidden (fun w => new_ok me w h1 h2)
  have h0s : 0 < w.heap.size := World.block_lt_of_cell? w ⟨0, 0, none⟩ hg
  have dm0 : decide (me < 1) = false := decide_eq_false (by omega)
  have dm1 : decide (1000000 < me) = false := decide_eq_false (by omega)
  clear hR hR2 hg
  go_enter Tryd.func3, Tryd.ntmps3
  go_wp2_with fail
  refine (HN.out _).mono ?_
  rintro e w1 ⟨rfl, hp, hbl⟩
  have HP1 := hidden hp
  have HB1 := hidden hbl
  obtain ⟨b, hb⟩ : ∃ b, w.heap.size = b := ⟨_, rfl⟩
  have HBe := hidden hb
  rw [hb] at HP1
  rw [hb]
  clear hp hbl HN hb
  go_wp2_with fail
  refine (Told.same_nil 0 _).mono ?_
  rintro e w2 ⟨rfl, hw⟩
  obtain rfl := hw.symm
  have HS0 : Hid (PSt w (w1.alloc (.cells #[.int .i64 me, .int .i64 0, .int .i64 0, .int .i64 0, .int .i64 0, .int .i64 0] 31)) b w1.heap.size (st0 me) (st0 me)) :=
    ⟨below_alloc HB1.out _, by rw [HBe.out]; exact Nat.le_refl _, HB1.out.size, HP1.out.below (below_alloc (Below.refl _ _) _), heap_alloc_new w1 _⟩
  obtain ⟨rb, hrb⟩ : ∃ rb, w1.heap.size = rb := ⟨_, rfl⟩
  rw [hrb] at HS0
  have HRb := hidden hrb
  clear HP1 HB1 hrb
  go_wp2_with fail
  rw [HRb.out]
  clear HRb dm0 dm1
  go_loopg [9, 10, 12] 60 (fun g e' t' i' wr => ∃ (k : Nat) (s : Lk) (ei : Int) (tb : Bool), k + g = 60 ∧ e' = .int .i64 ei ∧ t' = .bool tb ∧ i' = .int .i64 (k : Int) ∧ Hid (Inv s ∧ PSt w wr b rb s s))
  case atStart => exact ⟨0, _, _, _, by omega, rfl, rfl, rfl, hidden ⟨inv_st0 h1 h2, HS0.out⟩⟩
  case round =>
    obtain ⟨k, s, ei, tb, hkg, rfl, rfl, rfl, HS⟩ := hrel
    clear HS0
    by_cases hend : k < ls
    case neg =>
      have d1 : decide ((k : Int) < (ls : Int)) = false := decide_eq_false (by omega)
      go_wp2_with fail
      go_ret
      exact ⟨rfl, HS.out.2.bel⟩
    have hkz : (k : Int) < (ls : Int) := by omega
    by_cases h60 : k < 60
    case neg =>
      have h60z : ¬ (k : Int) < 60 := by omega
      go_wp2_with fail
      go_ret
      exact ⟨rfl, HS.out.2.bel⟩
    have h60z : (k : Int) < 60 := by omega
    obtain ⟨sb, so, a', l', c', rfl, hsb, hsc, hl', hrow⟩ := HRs.out k hend
    have HSc := hidden hsc
    have HRow := hidden hrow
    clear hsc hrow
    obtain ⟨vb, hvb⟩ : ∃ vb, wr.heap.size = vb := ⟨_, rfl⟩
    have HV0 : Hid (V3 (wr.alloc (.cells #[.int .i64 0, .int .i64 0, .int .i64 0] 32)) vb 0 0 0) := by rw [← hvb]; exact heap_alloc_new wr _
    have HB0 : Hid (Below vb wr (wr.alloc (.cells #[.int .i64 0, .int .i64 0, .int .i64 0] 32))) := by rw [← hvb]; exact hidden ((Below.refl _ _).alloc (Nat.le_refl _) _)
    have HPs : Hid (∀ W, Below vb wr W → PSt w W b rb s s) := by rw [← hvb]; exact hidden (fun W hb => HS.out.2.below hb)
    have HI := hidden HS.out.1
    have HVb := hidden hvb
    clear hvb HS
    go_wp2_with fail
    rw [HVb.out]
    go_loopg [14] 3 (fun g j' wq => ∃ (j : Nat) (v0 v1 v2 : Int), j + g = 3 ∧ j' = .int .i64 (j : Int) ∧ Hid (V3 wq vb v0 v1 v2 ∧ Below vb wr wq))
    case atStart => exact ⟨0, 0, 0, 0, by omega, rfl, HV0.out, HB0.out⟩
    case round =>
      obtain ⟨wo, ewo⟩ : ∃ x, x = wr := ⟨_, rfl⟩
      obtain ⟨j, v0, v1, v2, hjg, rfl, HJ⟩ := hrel
      clear HV0 HB0 ewo wo
      have HQ := hidden (HPs.out _ HJ.out.2)
      have cs1 := (HQ.out.bel.cell (p := ⟨sb, so + k, none⟩) hsb).trans HSc.out
      obtain ⟨jb, hjb⟩ : ∃ jb : Bool, decide (j < l' ∧ j < 3) = jb := ⟨_, rfl⟩
      have HJb := hidden hjb
      clear hjb
      go_upto_region 14 with fail
      go_cut [64] from 54 to 64 (fun c wx => c = .bool jb ∧ wx = wr)
      case first =>
        by_cases q1 : j < l'
        · have q1z : (j : Int) < (l' : Int) := by omega
          have e := hidden (by rw [← HJb.out]; simp [q1]; omega : decide ((j : Int) < 3) = jb)
          clear HJb
          go_wp2_with fail
          go_meet
          exact ⟨congrArg Value.bool e.out, rfl⟩
        · have q1z : ¬ (j : Int) < (l' : Int) := by omega
          have e := hidden (by rw [← HJb.out]; simp [q1] : false = jb)
          clear HJb
          go_wp2_with fail
          go_meet
          exact ⟨congrArg Value.bool e.out, rfl⟩
      case rest =>
        obtain ⟨rfl, rfl⟩ := hcut
        cases jb with
        | true =>
          obtain ⟨hj1, hj3⟩ : j < l' ∧ j < 3 := by simpa using HJb.out
          clear HJb
          have hjz : (j : Int) < (l' : Int) := by omega
          have hj3z : (j : Int) < 3 := by omega
          have hj0 : (0 : Int) ≤ (j : Int) := by omega
          obtain ⟨xb, xo, z, rfl, hxb, hxc⟩ := HRow.out j hj1
          have cx := (HQ.out.bel.cell (p := ⟨xb, xo + j, none⟩) hxb).trans hxc
          obtain ⟨z2, cy⟩ := v3_cell HJ.out.1 j hj3
          have fy := v3_free HJ.out.1 j
          obtain ⟨u0, u1, u2, hv3⟩ := v3_set HJ.out.1 j hj3 z
          have HN3 := hidden hv3
          have HBn := hidden (HJ.out.2.setCell (p := ⟨vb, j, none⟩) (Nat.le_refl _) (.int .i64 z))
          clear hxc hv3 HJ HQ
          go_wp2_with fail
          go_roundg (3 - (j + 1))
          case measure => omega
          case rel => exact ⟨j + 1, u0, u1, u2, by omega, by go_num, HN3.out, HBn.out⟩
        | false =>
          clear HJb
          obtain ⟨c0, c1, c2⟩ := v3_cells HJ.out.1
          have HV := hidden HJ.out.1
          clear HJ HPs HRow HSc cs1 hsb
          go_upto_block 4 with fail
          go_cut [9, 15, 16, 17, 18] from 76 to 142 (fun n' g' r' e' y' wx => CutR w wx b rb g' r' e' n')
          case first =>
            by_cases z0 : v0 = 0
            case pos =>
              subst z0
              as_aux_lemma =>
                have hF6 : oF s v1 ≤ 6 := oF_le s v1
                obtain ⟨F, hFF⟩ : ∃ F, oF s v1 = F := ⟨_, rfl⟩
                have HC := hidden (r_open HQ.out HI.out HV.out v1)
                have HP : Hid (∀ W v, PSt w W b rb s (oR s v1).1 → Out W v (oR s v1).2 → Calls Tryd.prog 7 #[.pointer (some ⟨b, 0, none⟩), .int .i64 v1] W fun e w' => ∃ v', e = .returned (.tuple #[v', errv (oF s v1)]) ∧ Hid (Both w w' b rb (oR s v1).1 v' v)) := fun W v h hm => p_open h hm
                rw [hFF] at HC HP hF6
                have HIn : Hid (Inv (oR s v1).1) := inv_oR HI.out v1
                clear hFF
                go_wp2_with fail
                refine HC.out.mono ?_
                rintro e w9 ⟨r9, rfl, H9⟩
                obtain ⟨_, dd1, _⟩ := v3_cells H9.out.2.1
                clear HC c0 c1 c2
                go_wp2_with fail
                refine (HP.out _ r9 H9.out.1 H9.out.2.2).mono ?_
                rintro e w10 ⟨v10, rfl, H10⟩
                clear HP H9 dd1
                go_wp2_with fail
                go_meet
                exact ⟨v10, r9, F, _, rfl, rfl, rfl, rfl, hF6, hidden ⟨HIn.out, H10.out⟩⟩
            have n0 : (v0 == 0) = false := by simpa using z0
            by_cases z1 : v0 = 1
            case pos =>
              subst z1
              as_aux_lemma =>
                by_cases q0 : 0 ≤ v2
                case neg =>
                  have e0 : decide (0 ≤ v2) = false := decide_eq_false q0
                  have hF6 : hF s [] v1 ≤ 6 := hF_le s [] v1
                  obtain ⟨F, hFF⟩ : ∃ F, hF s [] v1 = F := ⟨_, rfl⟩
                  have HC := hidden (r_hear (cap := 0) HQ.out HI.out HV.out (IArg.nil w none) (by simp) v1)
                  have HP : Hid (∀ W v, PSt w W b rb s (hR s [] v1).1 → Out W v (hR s [] v1).2 → Calls Tryd.prog 9 #[.pointer (some ⟨b, 0, none⟩), .slice none 0 0, .int .i64 v1] W fun e w' => ∃ v', e = .returned (.tuple #[v', errv (hF s [] v1)]) ∧ Hid (Both w w' b rb (hR s [] v1).1 v' v)) := fun W v h hm => p_hear (cap := 0) h (IArg.nil w none) (by simp) hm
                  rw [hFF] at HC HP hF6
                  have HIn : Hid (Inv (hR s [] v1).1) := inv_hR HI.out [] v1
                  clear hFF
                  go_wp2_with fail
                  refine HC.out.mono ?_
                  rintro e w9 ⟨r9, rfl, H9⟩
                  obtain ⟨_, dd1, _⟩ := v3_cells H9.out.2.1
                  clear HC c0 c1 c2
                  go_wp2_with fail
                  refine (HP.out _ r9 H9.out.1 H9.out.2.2).mono ?_
                  rintro e w10 ⟨v10, rfl, H10⟩
                  clear HP H9 dd1
                  go_wp2_with fail
                  go_meet
                  exact ⟨v10, r9, F, _, rfl, rfl, rfl, rfl, hF6, hidden ⟨HIn.out, H10.out⟩⟩
                have e0 : decide (0 ≤ v2) = true := decide_eq_true q0
                by_cases q1 : v2 < (ll : Int)
                case neg =>
                  have e1 : decide (v2 < (ll : Int)) = false := decide_eq_false q1
                  have hF6 : hF s [] v1 ≤ 6 := hF_le s [] v1
                  obtain ⟨F, hFF⟩ : ∃ F, hF s [] v1 = F := ⟨_, rfl⟩
                  have HC := hidden (r_hear (cap := 0) HQ.out HI.out HV.out (IArg.nil w none) (by simp) v1)
                  have HP : Hid (∀ W v, PSt w W b rb s (hR s [] v1).1 → Out W v (hR s [] v1).2 → Calls Tryd.prog 9 #[.pointer (some ⟨b, 0, none⟩), .slice none 0 0, .int .i64 v1] W fun e w' => ∃ v', e = .returned (.tuple #[v', errv (hF s [] v1)]) ∧ Hid (Both w w' b rb (hR s [] v1).1 v' v)) := fun W v h hm => p_hear (cap := 0) h (IArg.nil w none) (by simp) hm
                  rw [hFF] at HC HP hF6
                  have HIn : Hid (Inv (hR s [] v1).1) := inv_hR HI.out [] v1
                  clear hFF
                  go_wp2_with fail
                  refine HC.out.mono ?_
                  rintro e w9 ⟨r9, rfl, H9⟩
                  obtain ⟨_, dd1, _⟩ := v3_cells H9.out.2.1
                  clear HC c0 c1 c2
                  go_wp2_with fail
                  refine (HP.out _ r9 H9.out.1 H9.out.2.2).mono ?_
                  rintro e w10 ⟨v10, rfl, H10⟩
                  clear HP H9 dd1
                  go_wp2_with fail
                  go_meet
                  exact ⟨v10, r9, F, _, rfl, rfl, rfl, rfl, hF6, hidden ⟨HIn.out, H10.out⟩⟩
                have e1 : decide (v2 < (ll : Int)) = true := decide_eq_true q1
                obtain ⟨k2, rfl⟩ : ∃ k2 : Nat, v2 = (k2 : Int) := ⟨v2.toNat, by omega⟩
                obtain ⟨tb2, to2, ra, rl, rc, rfl, htb, htc, hrr⟩ := HRl.out k2 (by omega)
                have ctl := (HQ.out.bel.cell (p := ⟨tb2, to2 + k2, none⟩) htb).trans htc
                obtain ⟨RL, hRL⟩ := row_arg hrr
                have HRA := hidden (And.intro hRL (row_lt hrr))
                clear hRL hrr htc
                have hF6 : hF s RL v1 ≤ 6 := hF_le s RL v1
                obtain ⟨F, hFF⟩ : ∃ F, hF s RL v1 = F := ⟨_, rfl⟩
                have HC := hidden (r_hear (cap := rc) HQ.out HI.out HV.out HRA.out.1 HRA.out.2 v1)
                have HP : Hid (∀ W v, PSt w W b rb s (hR s RL v1).1 → Out W v (hR s RL v1).2 → Calls Tryd.prog 9 #[.pointer (some ⟨b, 0, none⟩), .slice ra rl rc, .int .i64 v1] W fun e w' => ∃ v', e = .returned (.tuple #[v', errv (hF s RL v1)]) ∧ Hid (Both w w' b rb (hR s RL v1).1 v' v)) := fun W v h hm => p_hear (cap := rc) h HRA.out.1 HRA.out.2 hm
                rw [hFF] at HC HP hF6
                have HIn : Hid (Inv (hR s RL v1).1) := inv_hR HI.out RL v1
                clear hFF
                go_wp2_with fail
                refine HC.out.mono ?_
                rintro e w9 ⟨r9, rfl, H9⟩
                obtain ⟨_, dd1, _⟩ := v3_cells H9.out.2.1
                clear HC c0 c1 c2
                go_wp2_with fail
                refine (HP.out _ r9 H9.out.1 H9.out.2.2).mono ?_
                rintro e w10 ⟨v10, rfl, H10⟩
                clear HP H9 dd1
                go_wp2_with fail
                go_meet
                exact ⟨v10, r9, F, _, rfl, rfl, rfl, rfl, hF6, hidden ⟨HIn.out, H10.out⟩⟩
            have n1 : (v0 == 1) = false := by simpa using z1
            by_cases z2 : v0 = 2
            case pos =>
              subst z2
              as_aux_lemma =>
                by_cases q0 : 0 ≤ v2
                case neg =>
                  have e0 : decide (0 ≤ v2) = false := decide_eq_false q0
                  have hF6 : hF s [] v1 ≤ 6 := hF_le s [] v1
                  obtain ⟨F, hFF⟩ : ∃ F, hF s [] v1 = F := ⟨_, rfl⟩
                  have HC := hidden (r_hear (cap := 0) HQ.out HI.out HV.out (IArg.nil w none) (by simp) v1)
                  have HP : Hid (∀ W v, PSt w W b rb s (hR s [] v1).1 → Out W v (hR s [] v1).2 → Calls Tryd.prog 9 #[.pointer (some ⟨b, 0, none⟩), .slice none 0 0, .int .i64 v1] W fun e w' => ∃ v', e = .returned (.tuple #[v', errv (hF s [] v1)]) ∧ Hid (Both w w' b rb (hR s [] v1).1 v' v)) := fun W v h hm => p_hear (cap := 0) h (IArg.nil w none) (by simp) hm
                  rw [hFF] at HC HP hF6
                  have HIn : Hid (Inv (hR s [] v1).1) := inv_hR HI.out [] v1
                  clear hFF
                  go_wp2_with fail
                  refine HC.out.mono ?_
                  rintro e w9 ⟨r9, rfl, H9⟩
                  obtain ⟨_, dd1, _⟩ := v3_cells H9.out.2.1
                  clear HC c0 c1 c2
                  go_wp2_with fail
                  refine (HP.out _ r9 H9.out.1 H9.out.2.2).mono ?_
                  rintro e w10 ⟨v10, rfl, H10⟩
                  clear HP H9 dd1
                  go_wp2_with fail
                  go_meet
                  exact ⟨v10, r9, F, _, rfl, rfl, rfl, rfl, hF6, hidden ⟨HIn.out, H10.out⟩⟩
                have e0 : decide (0 ≤ v2) = true := decide_eq_true q0
                by_cases q1 : v2 < (ll : Int)
                case neg =>
                  have e1 : decide (v2 < (ll : Int)) = false := decide_eq_false q1
                  have hF6 : hF s [] v1 ≤ 6 := hF_le s [] v1
                  obtain ⟨F, hFF⟩ : ∃ F, hF s [] v1 = F := ⟨_, rfl⟩
                  have HC := hidden (r_hear (cap := 0) HQ.out HI.out HV.out (IArg.nil w none) (by simp) v1)
                  have HP : Hid (∀ W v, PSt w W b rb s (hR s [] v1).1 → Out W v (hR s [] v1).2 → Calls Tryd.prog 9 #[.pointer (some ⟨b, 0, none⟩), .slice none 0 0, .int .i64 v1] W fun e w' => ∃ v', e = .returned (.tuple #[v', errv (hF s [] v1)]) ∧ Hid (Both w w' b rb (hR s [] v1).1 v' v)) := fun W v h hm => p_hear (cap := 0) h (IArg.nil w none) (by simp) hm
                  rw [hFF] at HC HP hF6
                  have HIn : Hid (Inv (hR s [] v1).1) := inv_hR HI.out [] v1
                  clear hFF
                  go_wp2_with fail
                  refine HC.out.mono ?_
                  rintro e w9 ⟨r9, rfl, H9⟩
                  obtain ⟨_, dd1, _⟩ := v3_cells H9.out.2.1
                  clear HC c0 c1 c2
                  go_wp2_with fail
                  refine (HP.out _ r9 H9.out.1 H9.out.2.2).mono ?_
                  rintro e w10 ⟨v10, rfl, H10⟩
                  clear HP H9 dd1
                  go_wp2_with fail
                  go_meet
                  exact ⟨v10, r9, F, _, rfl, rfl, rfl, rfl, hF6, hidden ⟨HIn.out, H10.out⟩⟩
                have e1 : decide (v2 < (ll : Int)) = true := decide_eq_true q1
                obtain ⟨k2, rfl⟩ : ∃ k2 : Nat, v2 = (k2 : Int) := ⟨v2.toNat, by omega⟩
                obtain ⟨tb2, to2, ra, rl, rc, rfl, htb, htc, hrr⟩ := HRl.out k2 (by omega)
                have ctl := (HQ.out.bel.cell (p := ⟨tb2, to2 + k2, none⟩) htb).trans htc
                obtain ⟨RL, hRL⟩ := row_arg hrr
                have HRA := hidden (And.intro hRL (row_lt hrr))
                clear hRL hrr htc
                have hF6 : hF s RL v1 ≤ 6 := hF_le s RL v1
                obtain ⟨F, hFF⟩ : ∃ F, hF s RL v1 = F := ⟨_, rfl⟩
                have HC := hidden (r_hear (cap := rc) HQ.out HI.out HV.out HRA.out.1 HRA.out.2 v1)
                have HP : Hid (∀ W v, PSt w W b rb s (hR s RL v1).1 → Out W v (hR s RL v1).2 → Calls Tryd.prog 9 #[.pointer (some ⟨b, 0, none⟩), .slice ra rl rc, .int .i64 v1] W fun e w' => ∃ v', e = .returned (.tuple #[v', errv (hF s RL v1)]) ∧ Hid (Both w w' b rb (hR s RL v1).1 v' v)) := fun W v h hm => p_hear (cap := rc) h HRA.out.1 HRA.out.2 hm
                rw [hFF] at HC HP hF6
                have HIn : Hid (Inv (hR s RL v1).1) := inv_hR HI.out RL v1
                clear hFF
                go_wp2_with fail
                refine HC.out.mono ?_
                rintro e w9 ⟨r9, rfl, H9⟩
                obtain ⟨_, dd1, _⟩ := v3_cells H9.out.2.1
                clear HC c0 c1 c2
                go_wp2_with fail
                refine (HP.out _ r9 H9.out.1 H9.out.2.2).mono ?_
                rintro e w10 ⟨v10, rfl, H10⟩
                clear HP H9 dd1
                go_wp2_with fail
                go_meet
                exact ⟨v10, r9, F, _, rfl, rfl, rfl, rfl, hF6, hidden ⟨HIn.out, H10.out⟩⟩
            have n2 : (v0 == 2) = false := by simpa using z2
            by_cases z3 : v0 = 3
            case pos =>
              subst z3
              as_aux_lemma =>
                by_cases q0 : 0 ≤ v2
                case neg =>
                  have e0 : decide (0 ≤ v2) = false := decide_eq_false q0
                  have hF6 : hF s [] v1 ≤ 6 := hF_le s [] v1
                  obtain ⟨F, hFF⟩ : ∃ F, hF s [] v1 = F := ⟨_, rfl⟩
                  have HC := hidden (r_hear (cap := 0) HQ.out HI.out HV.out (IArg.nil w none) (by simp) v1)
                  have HP : Hid (∀ W v, PSt w W b rb s (hR s [] v1).1 → Out W v (hR s [] v1).2 → Calls Tryd.prog 9 #[.pointer (some ⟨b, 0, none⟩), .slice none 0 0, .int .i64 v1] W fun e w' => ∃ v', e = .returned (.tuple #[v', errv (hF s [] v1)]) ∧ Hid (Both w w' b rb (hR s [] v1).1 v' v)) := fun W v h hm => p_hear (cap := 0) h (IArg.nil w none) (by simp) hm
                  rw [hFF] at HC HP hF6
                  have HIn : Hid (Inv (hR s [] v1).1) := inv_hR HI.out [] v1
                  clear hFF
                  go_wp2_with fail
                  refine HC.out.mono ?_
                  rintro e w9 ⟨r9, rfl, H9⟩
                  obtain ⟨_, dd1, _⟩ := v3_cells H9.out.2.1
                  clear HC c0 c1 c2
                  go_wp2_with fail
                  refine (HP.out _ r9 H9.out.1 H9.out.2.2).mono ?_
                  rintro e w10 ⟨v10, rfl, H10⟩
                  clear HP H9 dd1
                  go_wp2_with fail
                  go_meet
                  exact ⟨v10, r9, F, _, rfl, rfl, rfl, rfl, hF6, hidden ⟨HIn.out, H10.out⟩⟩
                have e0 : decide (0 ≤ v2) = true := decide_eq_true q0
                by_cases q1 : v2 < (ll : Int)
                case neg =>
                  have e1 : decide (v2 < (ll : Int)) = false := decide_eq_false q1
                  have hF6 : hF s [] v1 ≤ 6 := hF_le s [] v1
                  obtain ⟨F, hFF⟩ : ∃ F, hF s [] v1 = F := ⟨_, rfl⟩
                  have HC := hidden (r_hear (cap := 0) HQ.out HI.out HV.out (IArg.nil w none) (by simp) v1)
                  have HP : Hid (∀ W v, PSt w W b rb s (hR s [] v1).1 → Out W v (hR s [] v1).2 → Calls Tryd.prog 9 #[.pointer (some ⟨b, 0, none⟩), .slice none 0 0, .int .i64 v1] W fun e w' => ∃ v', e = .returned (.tuple #[v', errv (hF s [] v1)]) ∧ Hid (Both w w' b rb (hR s [] v1).1 v' v)) := fun W v h hm => p_hear (cap := 0) h (IArg.nil w none) (by simp) hm
                  rw [hFF] at HC HP hF6
                  have HIn : Hid (Inv (hR s [] v1).1) := inv_hR HI.out [] v1
                  clear hFF
                  go_wp2_with fail
                  refine HC.out.mono ?_
                  rintro e w9 ⟨r9, rfl, H9⟩
                  obtain ⟨_, dd1, _⟩ := v3_cells H9.out.2.1
                  clear HC c0 c1 c2
                  go_wp2_with fail
                  refine (HP.out _ r9 H9.out.1 H9.out.2.2).mono ?_
                  rintro e w10 ⟨v10, rfl, H10⟩
                  clear HP H9 dd1
                  go_wp2_with fail
                  go_meet
                  exact ⟨v10, r9, F, _, rfl, rfl, rfl, rfl, hF6, hidden ⟨HIn.out, H10.out⟩⟩
                have e1 : decide (v2 < (ll : Int)) = true := decide_eq_true q1
                obtain ⟨k2, rfl⟩ : ∃ k2 : Nat, v2 = (k2 : Int) := ⟨v2.toNat, by omega⟩
                obtain ⟨tb2, to2, ra, rl, rc, rfl, htb, htc, hrr⟩ := HRl.out k2 (by omega)
                have ctl := (HQ.out.bel.cell (p := ⟨tb2, to2 + k2, none⟩) htb).trans htc
                obtain ⟨RL, hRL⟩ := row_arg hrr
                have HRA := hidden (And.intro hRL (row_lt hrr))
                clear hRL hrr htc
                have hF6 : hF s RL v1 ≤ 6 := hF_le s RL v1
                obtain ⟨F, hFF⟩ : ∃ F, hF s RL v1 = F := ⟨_, rfl⟩
                have HC := hidden (r_hear (cap := rc) HQ.out HI.out HV.out HRA.out.1 HRA.out.2 v1)
                have HP : Hid (∀ W v, PSt w W b rb s (hR s RL v1).1 → Out W v (hR s RL v1).2 → Calls Tryd.prog 9 #[.pointer (some ⟨b, 0, none⟩), .slice ra rl rc, .int .i64 v1] W fun e w' => ∃ v', e = .returned (.tuple #[v', errv (hF s RL v1)]) ∧ Hid (Both w w' b rb (hR s RL v1).1 v' v)) := fun W v h hm => p_hear (cap := rc) h HRA.out.1 HRA.out.2 hm
                rw [hFF] at HC HP hF6
                have HIn : Hid (Inv (hR s RL v1).1) := inv_hR HI.out RL v1
                clear hFF
                go_wp2_with fail
                refine HC.out.mono ?_
                rintro e w9 ⟨r9, rfl, H9⟩
                obtain ⟨_, dd1, _⟩ := v3_cells H9.out.2.1
                clear HC c0 c1 c2
                go_wp2_with fail
                refine (HP.out _ r9 H9.out.1 H9.out.2.2).mono ?_
                rintro e w10 ⟨v10, rfl, H10⟩
                clear HP H9 dd1
                go_wp2_with fail
                go_meet
                exact ⟨v10, r9, F, _, rfl, rfl, rfl, rfl, hF6, hidden ⟨HIn.out, H10.out⟩⟩
            have n3 : (v0 == 3) = false := by simpa using z3
            clear z0 z1 z2 z3
            have hF6 : tf s.nw v1 ≤ 6 := tf_le s.nw v1
            obtain ⟨F, hFF⟩ : ∃ F, tf s.nw v1 = F := ⟨_, rfl⟩
            have HC := hidden (r_tick HQ.out HI.out HV.out v1)
            have HP : Hid (∀ W v, PSt w W b rb s (tR s v1).1 → Out W v (tR s v1).2 → Calls Tryd.prog 11 #[.pointer (some ⟨b, 0, none⟩), .int .i64 v1] W fun e w' => ∃ v', e = .returned (.tuple #[v', errv (tf s.nw v1)]) ∧ Hid (Both w w' b rb (tR s v1).1 v' v)) := fun W v h hm => p_tick h HI.out hm
            rw [hFF] at HC HP hF6
            have HIn : Hid (Inv (tR s v1).1) := inv_tR HI.out v1
            clear hFF
            go_wp2_with fail
            refine HC.out.mono ?_
            rintro e w9 ⟨r9, rfl, H9⟩
            obtain ⟨_, dd1, _⟩ := v3_cells H9.out.2.1
            clear HC c0 c1 c2
            go_wp2_with fail
            refine (HP.out _ r9 H9.out.1 H9.out.2.2).mono ?_
            rintro e w10 ⟨v10, rfl, H10⟩
            clear HP H9 dd1
            go_wp2_with fail
            go_meet
            exact ⟨v10, r9, F, _, rfl, rfl, rfl, rfl, hF6, hidden ⟨HIn.out, H10.out⟩⟩
          case rest =>
            obtain ⟨v, r, F, s2, rfl, rfl, rfl, rfl, hF6, HX⟩ := hcut
            obtain ⟨wd, rfl⟩ : ∃ x, x = wc := ⟨_, rfl⟩
            clear HQ HV HI c0 c1 c2
            obtain ⟨O, hP, hv, hr⟩ := HX.out.2
            have HI2 := hidden HX.out.1
            obtain ⟨a1, c1, rfl, hA1⟩ := hv.arg
            obtain ⟨a2, c2, rfl, hA2⟩ := hr.arg
            obtain ⟨n, hn⟩ : ∃ n, O.length = n := ⟨_, rfl⟩
            rw [hn] at hA1 hA2
            rw [hn]
            have HP := hidden hP
            have HA := hidden (And.intro hA1 hA2)
            clear hP hv hr hA1 hA2 hn HX
            have HE : Hid (∀ W, Below w.heap.size w W → Calls Tryd.prog 5 #[errv F, .int .i64 (F : Int)] W fun e w' => e = .returned (.bool true) ∧ Below W.heap.size W w') := fun W hb => told_f F W (by omega) ((hb.cell (p := ⟨0, 0, none⟩) h0s).trans HG.out)
            generalize errv F = ev at *
            go_wp2_with fail
            refine (HE.out _ HP.out.bel).mono ?_
            rintro e w11 ⟨rfl, hb⟩
            have HP11 := hidden (HP.out.below hb)
            have HA11 := hidden (And.intro (HA.out.1.below hb) (HA.out.2.below hb))
            clear hb HP HA HE
            go_wp2_with fail
            refine (ints_same a1 a2 n c1 c2 O _ HA11.out.1 HA11.out.2).mono ?_
            rintro e w12 ⟨rfl, hb⟩
            have HP12 := hidden (HP11.out.below hb)
            clear hb HP11 HA11
            have HS3 : Hid (∀ W, Hid (PSt w W b rb s2 s2) → Calls Tryd.prog 13 #[.pointer (some ⟨b, 0, none⟩)] W fun e w' => e = .returned (.int .i64 s2.st) ∧ (w'.cell? ⟨rb, 2, none⟩ = some (.int .i64 s2.st) ∧ w'.cell? ⟨rb, 1, none⟩ = some (.int .i64 s2.ot)) ∧ Hid (PSt w w' b rb s2 s2)) := by
              refine hidden (fun W hQ => (state_calls b s2.st W (L6.cells hQ.out.link).2.2.1).mono ?_)
              rintro e w' ⟨rfl, rfl⟩
              exact ⟨rfl, ⟨(R6.cells hQ.out.ref).2.2.1, (R6.cells hQ.out.ref).2.1⟩, hQ⟩
            have HO3 : Hid (∀ W, Hid (PSt w W b rb s2 s2) → Calls Tryd.prog 14 #[.pointer (some ⟨b, 0, none⟩)] W fun e w' => e = .returned (.int .i64 s2.ot) ∧ (w'.cell? ⟨rb, 2, none⟩ = some (.int .i64 s2.st) ∧ w'.cell? ⟨rb, 1, none⟩ = some (.int .i64 s2.ot)) ∧ Hid (PSt w w' b rb s2 s2)) := by
              refine hidden (fun W hQ => (other_calls b s2.ot W (L6.cells hQ.out.link).2.2.2.1).mono ?_)
              rintro e w' ⟨rfl, rfl⟩
              exact ⟨rfl, ⟨(R6.cells hQ.out.ref).2.2.1, (R6.cells hQ.out.ref).2.1⟩, hQ⟩
            have hS0 : w12.drew.cell? ⟨rb, 2, none⟩ = some (.int .i64 s2.st) ∧ w12.drew.cell? ⟨rb, 1, none⟩ = some (.int .i64 s2.ot) := ⟨(R6.cells HP12.out.ref).2.2.1, (R6.cells HP12.out.ref).2.1⟩
            have HQ0 : Hid (PSt w w12.drew b rb s2 s2) := hidden (HP12.out.below ((Below.refl _ _).drew))
            obtain ⟨S, hS⟩ : ∃ S, s2.st = S := ⟨_, rfl⟩
            obtain ⟨oo, hoo⟩ : ∃ oo, s2.ot = oo := ⟨_, rfl⟩
            rw [hS, hoo] at HS3 HO3 hS0
            clear hS hoo HP12
            go_wp2_with fail
            go_region_held3 (fun w' => w'.cell? ⟨rb, 2, none⟩ = some (.int .i64 S) ∧ w'.cell? ⟨rb, 1, none⟩ = some (.int .i64 oo)) (with_reducible assumption) (first | (go_at_call 13; refine (HS3.out _ (by with_reducible assumption)).mono ?_; rintro e w13 ⟨rfl, hS5, HQ5⟩) | (go_at_call 14; refine (HO3.out _ (by with_reducible assumption)).mono ?_; rintro e w14 ⟨rfl, hS6, HQ6⟩))
            go_wp2_with fail
            go_roundg (60 - (k + 1))
            case measure => omega
            case rel => exact ⟨k + 1, s2, _, _, by omega, rfl, rfl, by go_num, hidden ⟨HI2.out, by first | exact HQ6.out | exact HQ6.out.below ((Below.refl _ _).drew)⟩⟩
theorem walk (me : Int) (sa la : Option Addr) (ls cs ll cl : Nat) (Z Z2 : Nat → Int) (w : World) (hg : w.cell? ⟨0, 0, none⟩ = some (.iface 72 (.agg #[.pointer (some ⟨1, 25, none⟩)]))) (hR : Open.NRows w sa ls Z) (hR2 : Open.NRows w la ll Z2) :
    Calls Tryd.prog 3 #[.int .i64 me, .slice sa ls cs, .slice la ll cl] w fun e w' => e = .returned (.bool true) ∧ Below w.heap.size w w' := by
  by_cases h : me < 1 ∨ 1000000 < me
  · exact walk_err me _ _ w hg h
  · exact walk_ok me sa la ls cs ll cl Z Z2 w hg (by omega) (by omega) hR hR2
end Go.Proofs.YtfdbfelcokockaiDoor.LPlays
