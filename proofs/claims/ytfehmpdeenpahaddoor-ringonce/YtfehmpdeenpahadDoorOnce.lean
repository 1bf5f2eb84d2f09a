/-
  The walk of the Go function RingOnce: it returns true. Its condition: package errors' variable errorType is as its text lays it.
-/
import Derived.Test.YtfehmpdeenpahadDoorRingF
import Derived.Test.YtfehmpdeenpahadDoorRingL
import Derived.Test.YtfehmpdeenpahadDoorSame
import Derived.Test.YtfehmpdeenpahadDoorTold
namespace Go.Proofs.YtfehmpdeenpahadDoor.Once
open Go.ChangeShapes Go.WideShapes Go.ChangeAt Go.RowKit Go.Proofs.YtfehmpdeenpahadDoor.PM Go.Proofs.YtfehmpdeenpahadDoor.Mem Go.Proofs.YtfehmpdeenpahadDoor.Pack Go.Proofs.YtfehmpdeenpahadDoor.RM Go.Proofs.YtfehmpdeenpahadDoor.Ring
set_option linter.unusedVariables false

theorem one_T {n y : Int} {f : Nat} (h1 : 1 ≤ n) (h0 : 0 ≤ y) (hy : y ≤ 1099511627776) (hf : f = 0) : pf n (-1) y f = 0 ∧ px n (-1) y [] f = true ∧ pT n (-1) y [] f = y ∧ ∀ p, pM n (-1) y [] f p = [(y, p)] := by
  have e1 : pf n (-1) y f = 0 := pf_mk h0 hy hf (by omega)
  have e2 : px n (-1) y [] f = true := by simp [px, e1, has]
  have e3 : top (-1) y = y := by simp [top]; omega
  exact ⟨e1, e2, by simp [pT, e2, e3], fun p => by simp [pM, e2, keeps]⟩
theorem two_T {n y : Int} {f : Nat} (p : Pk) (h1 : 1 ≤ n) (h0 : 0 ≤ y) (hy : y ≤ 1099511627776) : pf n y y f = f ∧ px n y y [(y, p)] f = false := by
  refine ⟨?_, by simp [px, has]⟩
  unfold pf
  rw [if_neg (by omega)]
  by_cases hf : f = 0
  · rw [if_neg (by omega), if_neg (by omega), hf]
  · rw [if_pos hf]
theorem three_T {n y : Int} {f : Nat} (M : Its) (h1 : n ≤ y) (hy : y ≤ 1099511627776) (hn : 1 ≤ n) (hf : f = 0) : pf n y (y - n) f = 6 ∧ px n y (y - n) M f = false := by
  have e : pf n y (y - n) f = 6 := by
    unfold pf
    rw [if_neg (by omega), if_neg (by omega), if_pos (by omega)]
  exact ⟨e, by simp [px, e]⟩
theorem four_T {n y : Int} {f : Nat} (p : Pk) (h1 : n ≤ y) (hy : y ≤ 1099511627776) (hn : 1 ≤ n) (hf : f = 0) : pf n y (y - n + 1) f = 0 ∧ px n y (y - n + 1) [(y, p)] f = decide (1 < n) := by
  have e : pf n y (y - n + 1) f = 0 := pf_mk (by omega) (by omega) hf (by omega)
  refine ⟨e, ?_⟩
  simp only [px, e, has, List.any_cons, List.any_nil, Bool.or_false, decide_true, Bool.true_and]
  by_cases h : 1 < n
  · have : (y == y - n + 1) = false := by simp; omega
    simp [this, h]
  · have : (y == y - n + 1) = true := by simp; omega
    simp [this, h]
theorem got_one (y : Int) (p : Pk) : got [(y, p)] y = p ∧ gf [(y, p)] y = 0 := by
  simp [got, Ring.find, gf, has]
theorem low_one (y : Int) (p : Pk) : low y [(y, p)] = y := by simp [low]
theorem inv_one {n y : Int} (p : Pk) (h1 : 1 ≤ n) (h2 : n ≤ 64) (h0 : 0 ≤ y) (hy : y ≤ 1099511627776) : RM.Inv n y [(y, p)] := by
  have := inv_step (n := n) (T := -1) (y := y) (M := []) (inv_start h1 h2) 0 p
  obtain ⟨_, _, e3, e4⟩ := one_T (f := 0) h1 h0 hy rfl
  rw [e3, e4] at this
  exact this

/-- the ring, and the two packets that came in -/
def OSt (w W : World) (b mb : Nat) (n T : Int) (M : Its) (s t l q : Int) (st : Bool) (bv : Value) (s2 t2 l2 q2 : Int) (st2 : Bool) (bv2 : Value) : Prop :=
  Below w.heap.size w W ∧ Box W w.heap.size s t l q st bv ∧ Box W (w.heap.size + 1) s2 t2 l2 q2 st2 bv2 ∧ w.heap.size + 2 ≤ b ∧ w.heap.size + 2 ≤ mb ∧ RingAt W b mb n T M
theorem ost_below {w W W' : World} {b mb : Nat} {n T : Int} {M : Its} {s t l q : Int} {st : Bool} {bv : Value} {s2 t2 l2 q2 : Int} {st2 : Bool} {bv2 : Value} (h : OSt w W b mb n T M s t l q st bv s2 t2 l2 q2 st2 bv2) (hb : Below W.heap.size W W') : OSt w W' b mb n T M s t l q st bv s2 t2 l2 q2 st2 bv2 := by
  obtain ⟨h1, h2, h3, h4, h5, h6⟩ := h
  exact ⟨h1.trans (hb.mono h1.size), h2.below hb h2.lt, h3.below hb h3.lt, h4, h5, h6.below hb⟩
theorem ost_put {w W W' : World} {b mb : Nat} {n T T' : Int} {M M' : Its} {s t l q : Int} {st : Bool} {bv : Value} {s2 t2 l2 q2 : Int} {st2 : Bool} {bv2 : Value} (h : OSt w W b mb n T M s t l q st bv s2 t2 l2 q2 st2 bv2) (hR : RingAt W' b mb n T' M') (ho : Only [b, mb] W W') : OSt w W' b mb n T' M' s t l q st bv s2 t2 l2 q2 st2 bv2 := by
  obtain ⟨h1, h2, h3, h4, h5, h6⟩ := h
  exact ⟨h1.trans (ho.below h1.size (by simp; omega)), ho.block h2 (by simp; omega), ho.block h3 (by simp; omega), h4, h5, hR⟩

set_option maxHeartbeats 1000000 in
theorem walk_err (n y : Int) (s t l q : Int) (st : Bool) (bv : Value) (s2 t2 l2 q2 : Int) (st2 : Bool) (bv2 : Value) (w : World) (h : n < 1 ∨ 64 < n) :
    Calls Tryd.prog 3 #[.int .i64 n, .int .i64 y, .agg #[.int .i64 s, .int .i64 t, .int .i64 l, .int .i64 q, .bool st, bv], .agg #[.int .i64 s2, .int .i64 t2, .int .i64 l2, .int .i64 q2, .bool st2, bv2]] w fun e w' => e = .returned (.bool true) ∧ Below w.heap.size w w' := by
  have HE := hidden (fun w => new_err n w h)
  have hb : ∀ O1 O2, Below w.heap.size w ((w.alloc O1).alloc O2) := fun O1 O2 => ((Below.refl _ _).alloc (Nat.le_refl _) _).alloc (by simp) _
  by_cases c : n < 1
  · clear h
    go_enter Tryd.func3, Tryd.ntmps3
    go_wp2_with fail
    refine (HE.out _).mono ?_
    rintro e w' ⟨rfl, rfl⟩
    go_wp2_with fail
    go_ret
    exact ⟨rfl, hb _ _⟩
  · have c' : 64 < n := by omega
    clear h
    go_enter Tryd.func3, Tryd.ntmps3
    go_wp2_with fail
    refine (HE.out _).mono ?_
    rintro e w' ⟨rfl, rfl⟩
    go_wp2_with fail
    go_ret
    exact ⟨by simp, hb _ _⟩

set_option maxHeartbeats 1000000 in
set_option maxRecDepth 100000 in
theorem walk_bad (n y : Int) (s t l q : Int) (st : Bool) (a : Option Addr) (m cap : Nat) (L : List Nat) (s2 t2 l2 q2 : Int) (st2 : Bool) (bv2 : Value) (w : World) (h1 : 1 ≤ n) (h2 : n ≤ 64) (hA : Arg w a m L) (hN : a = none → m = 0 ∧ cap = 0)
    (hbad : y < 0 ∨ 1099511627776 < y ∨ fault s t l q m ≠ 0) :
    Calls Tryd.prog 3 #[.int .i64 n, .int .i64 y, .agg #[.int .i64 s, .int .i64 t, .int .i64 l, .int .i64 q, .bool st, .slice a m cap], .agg #[.int .i64 s2, .int .i64 t2, .int .i64 l2, .int .i64 q2, .bool st2, bv2]] w fun e w' => e = .returned (.bool true) ∧ Below w.heap.size w w' := by
  have HE := hidden (fun w => new_ok n w h1 h2)
  have hb : ∀ O1 O2, Below w.heap.size w ((w.alloc O1).alloc O2) := fun O1 O2 => ((Below.refl _ _).alloc (Nat.le_refl _) _).alloc (by simp) _
  have HB := hidden hb
  have HC := hidden (fun w => check_calls s t l q st a m cap w)
  have hne : pf n (-1) y (fault s t l q m) ≠ 0 := by
    intro h
    have := pf_zero h
    omega
  have HP : Hid (∀ b mb W, RingAt W b mb n (-1) [] → Arg W a m L → Calls Tryd.prog 6 #[.pointer (some ⟨b, 0, none⟩), .int .i64 y, .agg #[.int .i64 s, .int .i64 t, .int .i64 l, .int .i64 q, .bool st, .slice a m cap]] W fun e w' => e = .returned (.tuple #[.bool false, errv (pf n (-1) y (fault s t l q m))]) ∧ Only [b, mb] W w') := by
    refine hidden ?_
    intro b mb W hR hA
    refine (put_calls b mb n (-1) y s t l q st a m cap L [] W hR (inv_start h1 h2) hA hN).mono ?_
    rintro e w' ⟨rfl, _, ho⟩
    refine ⟨?_, ho⟩
    have : px n (-1) y [] (fault s t l q m) = false := by simp [px, hne]
    rw [this]
  have HA := hidden hA
  have hE0 : ¬ (y < 0 ∨ 1099511627776 < y) → pf n (-1) y (fault s t l q m) = fault s t l q m := by
    intro h
    unfold pf
    rw [if_neg h, if_pos (by omega)]
  generalize pf n (-1) y (fault s t l q m) = E at *
  generalize fault s t l q m = f at *
  have HE0 := hidden hE0
  have HBad := hidden hbad
  clear hE0 hA hb hbad
  have hc := cmp_ne E
  have hg := grd_ne E
  have hc2 := cmp_ne f
  have hg2 := grd_ne f
  have d : decide (E = 0) = false := by simpa using hne
  clear hne
  go_enter Tryd.func3, Tryd.ntmps3
  go_wp2_with fail
  refine (HE.out _).mono ?_
  rintro e w1 ⟨b, mb, rfl, hb1, hb2, hR, hbl⟩
  have HB1 : Hid (Below w.heap.size w w1) := (HB.out _ _).trans (hbl.mono (by simp; omega))
  have HX : Hid (Box w1 w.heap.size s t l q st (.slice a m cap)) := ((Box.new w s t l q st (.slice a m cap)).alloc _).below hbl (by simp; omega)
  have HR := hidden hR
  simp at hb1 hb2
  clear hR hbl HB
  obtain ⟨c0, c1, c2, c3, c4, c5⟩ := HX.out.cells
  go_wp2_with fail
  refine (HP.out b mb w1 HR.out (HA.out.below HB1.out)).mono ?_
  rintro e w2 ⟨rfl, ho⟩
  have HB2 : Hid (Below w.heap.size w w2) := HB1.out.trans (ho.below HB1.out.size (by simp; omega))
  have HX2 : Hid (Box w2 w.heap.size s t l q st (.slice a m cap)) := ho.block HX.out (by simp; omega)
  clear ho HX HR HB1 c0 c1 c2 c3 c4 c5
  obtain ⟨c0, c1, c2, c3, c4, c5⟩ := HX2.out.cells
  by_cases y0 : y < 0
  · go_wp2_with fail
    go_ret
    exact ⟨rfl, HB2.out⟩
  by_cases y1 : 1099511627776 < y
  · go_wp2_with fail
    go_ret
    exact ⟨by simp, HB2.out⟩
  have hf0 : decide (f = 0) = false := by have := HE0.out (by omega); rw [← this]; exact d
  go_wp2_with fail
  refine (HC.out _).mono ?_
  rintro e w3 ⟨rfl, hb3⟩
  go_wp2_with fail
  go_ret
  exact ⟨by simp, HB2.out.trans (hb3.mono HB2.out.size)⟩
end Go.Proofs.YtfehmpdeenpahadDoor.Once
