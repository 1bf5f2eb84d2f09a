/-
  The walk of the Go function BackPairs: it returns true at any numbers, any pairs, anything that is said back, and bytes up to a bound. It changes nothing that was there. Its condition: package errors' variable errorType is as its text lays it.
-/
import Derived.Test.YtjhfjkacfnccdabDoorBackM
import Derived.Test.YtjhfjkacfnccdabDoorRRBGen
import Derived.Test.YtjhfjkacfnccdabDoorPSame
import Derived.Test.YtjhfjkacfnccdabDoorTold
namespace Go.Proofs.YtjhfjkacfnccdabDoor.Back
open Go.ChangeShapes Go.WideShapes Go.ChangeAt Go.RowKit Go.Sort Go.Lib Go.Proofs.YtjhfjkacfnccdabDoor.BM Go.Proofs.YtjhfjkacfnccdabDoor.Mem
set_option linter.unusedVariables false

set_option maxHeartbeats 1000000 in
set_option maxRecDepth 100000 in
theorem same_bk (k t u : Int) (a b : Option Addr) (n cap cap' : Nat) (L : List Int) (w : World) (hA : IArg w a n L) (hB : IArg w b n L) :
    Calls Tryd.prog 33 #[.agg #[.int .i64 k, .int .i64 t, .slice a n cap, .int .i64 u], .agg #[.int .i64 k, .int .i64 t, .slice b n cap', .int .i64 u]] w fun e w' => e = .returned (.bool true) ∧ Below w.heap.size w w' := by
  have hbb : ∀ O1 O2, Below w.heap.size w ((w.alloc O1).alloc O2) := fun O1 O2 => ((Below.refl _ _).alloc (Nat.le_refl _) _).alloc (by simp) _
  have HI : Hid (∀ W, Below w.heap.size w W → Calls Tryd.prog _ #[.slice a n cap, .slice b n cap'] W _) := fun W hW => ints_same a b n cap cap' L W (hA.below hW) (hB.below hW)
  have HBB := hidden hbb
  clear hA hB hbb
  go_enter Tryd.func33, Tryd.ntmps33
  go_wp2_with fail
  refine (HI.out _ (HBB.out _ _)).mono ?_
  rintro e w1 ⟨rfl, hb1⟩
  have HX1 : Hid (BBox w1 w.heap.size k t (.slice a n cap) u) := ((BBox.new w k t (.slice a n cap) u).alloc _).below hb1 (by simp; omega)
  have HX2 : Hid (BBox w1 (w.heap.size + 1) k t (.slice b n cap') u) := by
    have h0 : BBox ((w.alloc (.cells #[.int .i64 k, .int .i64 t, .slice a n cap, .int .i64 u] 56)).alloc (.cells #[.int .i64 k, .int .i64 t, .slice b n cap', .int .i64 u] 56)) (w.heap.size + 1) k t (.slice b n cap') u := by
      have := BBox.new (w.alloc (.cells #[.int .i64 k, .int .i64 t, .slice a n cap, .int .i64 u] 56)) k t (.slice b n cap') u
      simpa using this
    exact h0.below hb1 (by simp)
  have HB1 : Hid (Below w.heap.size w w1) := (HBB.out _ _).trans (hb1.mono (by simp; omega))
  clear hb1
  obtain ⟨c0, c1, c2, c3⟩ := HX1.out.cells
  obtain ⟨d0, d1, d2, d3⟩ := HX2.out.cells
  go_wp2_with fail
  go_ret
  exact ⟨by simp, HB1.out⟩
end Go.Proofs.YtjhfjkacfnccdabDoor.Back
namespace Go.Proofs.YtjhfjkacfnccdabDoor.BP
open Go.ChangeShapes Go.WideShapes Go.ChangeAt Go.RowKit Go.Sort Go.Lib Go.Proofs.YtjhfjkacfnccdabDoor.BM Go.Proofs.YtjhfjkacfnccdabDoor.Mem Go.Proofs.YtjhfjkacfnccdabDoor.Back
set_option linter.unusedVariables false

theorem same_gen (e : Nat) (w : World) (he : e ≤ 100) (hg : w.cell? ⟨0, 0, none⟩ = some (.iface 136 (.agg #[.pointer (some ⟨1, 25, none⟩)]))) :
    Calls Tryd.prog 12 #[errv e, .int .i64 (e : Int)] w fun ev w' => ev = .returned (.bool true) ∧ Below w.heap.size w w' := by
  by_cases h : e = 0
  · subst h
    refine (Told.same_nil 0 w).mono ?_
    rintro ev w' ⟨rfl, rfl⟩
    exact ⟨rfl, Below.refl _ _⟩
  · rw [errv_pos h]
    refine (Told.same_err (e : Int) (e : Int) w (by omega) (by omega) hg).mono ?_
    rintro ev w' ⟨rfl, hb⟩
    exact ⟨by simp, hb⟩
theorem lt_of_cell {w : World} {v : Value} (h : w.cell? ⟨0, 0, none⟩ = some v) : 0 < w.heap.size := by
  rcases Nat.eq_zero_or_pos w.heap.size with h0 | h'
  · simp [World.cell?, h0] at h
  · exact h'
theorem pfault_le (L : List Int) : pfault L ≤ 100 := by unfold pfault; repeat' split
                                                        all_goals omega
theorem nfault_le (l : List (Int × Int)) : nfault l ≤ 100 := by unfold nfault; repeat' split
                                                                all_goals omega
theorem efault_le (k t : Int) (L : List Int) (u : Int) : efault k t L u ≤ 100 := by
  unfold efault
  split
  · exact pfault_le L
  · unfold cfault
    repeat' split
    all_goals omega
theorem rfault_le (B : List Nat) : rfault B ≤ 100 := by
  by_cases hs : rshort B = true
  · unfold rfault; rw [if_pos hs]; omega
  · have hs' : rshort B = false := by simpa using hs
    match B, hs' with
    | [], h1 => simp [rshort] at h1
    | [_], h1 => simp [rshort] at h1
    | k :: t :: r, h1 =>
      rw [rfault_two k t r h1]
      unfold sfault
      repeat' split
      all_goals omega
theorem reads_same {w1 w1' w2 w2' : World} {B : List Nat} {k t u k' t' u' : Int} {a a' : Option Addr} {m c m' c' : Nat} (h1 : Reads w1 w1' B k t a m c u) (h2 : Reads w2 w2' B k' t' a' m' c' u') :
    k = k' ∧ t = t' ∧ u = u' ∧ m = m' ∧ ∃ L, IArg w1' a m L ∧ IArg w2' a' m' L := by
  by_cases hz : rfault B = 0
  · obtain ⟨k1, t1, r1, e1, _, _, x1, x2, x3, x4⟩ := h1.2.2.2 hz
    obtain ⟨k2, t2, r2, e2, _, _, y1, y2, y3, y4⟩ := h2.2.2.2 hz
    rw [e1] at e2
    simp only [List.cons.injEq] at e2
    obtain ⟨rfl, rfl, rfl⟩ := e2
    exact ⟨x1.trans y1.symm, x2.trans y2.symm, x3.trans y3.symm, x4.2.1.symm.trans y4.2.1, _, x4, y4⟩
  · obtain ⟨x1, x2, x3, x4⟩ := h1.2.2.1 hz
    obtain ⟨y1, y2, y3, y4⟩ := h2.2.2.1 hz
    exact ⟨x1.trans y1.symm, x2.trans y2.symm, x3.trans y3.symm, x4.2.1.symm.trans y4.2.1, _, x4, y4⟩
/-- nothing that was there has changed, and b is in its variable -/
def St (w wx : World) (k t : Int) (sv : Value) (u : Int) : Prop := Below w.heap.size w wx ∧ BBox wx w.heap.size k t sv u
theorem St.next {w wx wy : World} {k t : Int} {sv : Value} {u : Int} (h : St w wx k t sv u) (hb : Below wx.heap.size wx wy) : St w wy k t sv u := ⟨h.1.trans (hb.mono h.1.size), h.2.below hb h.2.lt⟩

set_option maxHeartbeats 4000000 in
set_option maxRecDepth 100000 in
theorem walk (a0 : Option Addr) (n0 cap0 : Nat) (L : List Int) (ap : Option Addr) (np capp : Nat) (l : List (Int × Int)) (k t : Int) (a1 : Option Addr) (n1 cap1 : Nat) (L1 : List Int) (u : Int) (a2 : Option Addr) (n2 cap2 : Nat) (B : List Nat) (w : World)
    (hg : w.cell? ⟨0, 0, none⟩ = some (.iface 136 (.agg #[.pointer (some ⟨1, 25, none⟩)])))
    (h0 : IArg w a0 n0 L) (hn0 : a0 = none → n0 = 0 ∧ cap0 = 0) (hp : PArg w ap np l) (h1 : IArg w a1 n1 L1) (hn1 : a1 = none → n1 = 0 ∧ cap1 = 0) (h2 : Arg w a2 n2 B) (hc2 : n2 ≤ cap2) (hb2 : n2 ≤ 2000000) :
    Calls Tryd.prog 6 #[.slice a0 n0 cap0, .slice ap np capp, .agg #[.int .i64 k, .int .i64 t, .slice a1 n1 cap1, .int .i64 u], .slice a2 n2 cap2] w fun e w' => e = .returned (.bool true) ∧ Below w.heap.size w w' := by
  have HX0 : Hid (St w (w.alloc (.cells #[.int .i64 k, .int .i64 t, .slice a1 n1 cap1, .int .i64 u] 56)) k t (.slice a1 n1 cap1) u) := ⟨(Below.refl _ _).alloc (Nat.le_refl _) _, BBox.new w k t (.slice a1 n1 cap1) u⟩
  have HRP := hidden (fun W hW => rpairs_gen a0 n0 cap0 L W (IArg.below h0 hW))
  have HPG := hidden (fun W hW => pairs_gen a0 n0 cap0 L W (IArg.below h0 hW) hn0)
  have HRN := hidden (fun W hW => rnumbers_gen ap np capp l W (PArg.below hp hW))
  have HNG := hidden (fun W hW => numbers_gen ap np capp l W (PArg.below hp hW))
  have HRB := hidden (fun W hW => rbb_gen k t a1 n1 cap1 u L1 W (IArg.below h1 hW) hn1)
  have HEN := hidden (fun W hW => encode_gen k t a1 n1 cap1 u L1 W (IArg.below h1 hW) hn1)
  have HRR := hidden (fun W hW => rrb_gen a2 n2 cap2 B W (Arg.below h2 hW) hc2 hb2)
  have HRD := hidden (fun W hW => read_gen a2 n2 cap2 B W (Arg.below h2 hW) hc2)
  have HGW : Hid (∀ W, Below w.heap.size w W → W.cell? ⟨0, 0, none⟩ = _) := fun W hW => (hW.cell (p := ⟨0, 0, none⟩) (lt_of_cell hg)).trans hg
  have HL1 := hidden (pfault_le L)
  have HL2 := hidden (nfault_le l)
  have HL3 : Hid (efault k t L1 u ≤ 100) := efault_le k t L1 u
  have HL4 := hidden (rfault_le B)
  clear h0 hn0 hp h1 hn1 h2 hc2 hb2 hg
  generalize pr (prsOf L) = P1 at *
  generalize pfault L = f1 at *
  generalize numsOf l = N2 at *
  generalize nfault l = f2 at *
  generalize encB k t L1 u = EB at *
  generalize efault k t L1 u = f3 at *
  obtain ⟨f4, hf4⟩ : ∃ z, rfault B = z := ⟨_, rfl⟩
  rw [hf4] at HRR HRD HL4
  clear hf4
  go_enter Tryd.func6, Tryd.ntmps6
  go_wp2_with fail
  refine (HRP.out _ HX0.out.1).mono ?_
  rintro e w1 ⟨b1, m1, c1, rfl, hP1, _, hb1⟩
  have HX1 := hidden (HX0.out.next hb1)
  obtain rfl : P1.length = m1 := hP1.2.1
  have HA1 := hidden hP1
  clear hP1 hb1 HX0
  go_wp2_with fail
  refine (HPG.out _ HX1.out.1).mono ?_
  rintro e w2 ⟨b2, m2, c2, rfl, hP2, _, _, hb2⟩
  have HX2 := hidden (HX1.out.next hb2)
  have HA2 := hidden (HA1.out.below hb2)
  obtain rfl : P1.length = m2 := hP2.2.1
  have HB2 := hidden hP2
  clear hP2 hb2 HX1 HA1
  go_wp2_with fail
  refine (same_gen f1 _ HL1.out (HGW.out _ HX2.out.1)).mono ?_
  rintro e w3 ⟨rfl, hb3⟩
  have HX3 := hidden (HX2.out.next hb3)
  have HA3 := hidden (HA2.out.below hb3)
  have HB3 := hidden (HB2.out.below hb3)
  clear hb3 HX2 HA2 HB2
  go_wp2_with fail
  refine (prs_same b2 b1 P1.length c2 c1 P1 _ HB3.out HA3.out).mono ?_
  rintro e w4 ⟨rfl, hb4⟩
  have HX4 := hidden (HX3.out.next hb4)
  clear hb4 HX3 HA3 HB3
  go_wp2_with fail
  refine (HRN.out _ HX4.out.1).mono ?_
  rintro e w5 ⟨b5, m5, c5, rfl, hI5, _, _, hb5⟩
  have HX5 := hidden (HX4.out.next hb5)
  obtain rfl : N2.length = m5 := hI5.2.1
  have HA5 := hidden hI5
  clear hI5 hb5 HX4
  go_wp2_with fail
  refine (HNG.out _ HX5.out.1).mono ?_
  rintro e w6 ⟨b6, m6, c6, rfl, hI6, _, _, hb6⟩
  have HX6 := hidden (HX5.out.next hb6)
  have HA6 := hidden (HA5.out.below hb6)
  obtain rfl : N2.length = m6 := hI6.2.1
  have HB6 := hidden hI6
  clear hI6 hb6 HX5 HA5
  go_wp2_with fail
  refine (same_gen f2 _ HL2.out (HGW.out _ HX6.out.1)).mono ?_
  rintro e w7 ⟨rfl, hb7⟩
  have HX7 := hidden (HX6.out.next hb7)
  have HA7 := hidden (HA6.out.below hb7)
  have HB7 := hidden (HB6.out.below hb7)
  clear hb7 HX6 HA6 HB6
  go_wp2_with fail
  refine (ints_same b6 b5 N2.length c6 c5 N2 _ HB7.out HA7.out).mono ?_
  rintro e w8 ⟨rfl, hb8⟩
  have HX8 := hidden (HX7.out.next hb8)
  clear hb8 HX7 HA7 HB7
  obtain ⟨k0, k1, k2, k3⟩ := HX8.out.2.cells
  go_wp2_with fail
  refine (HRB.out _ HX8.out.1).mono ?_
  rintro e w9 ⟨b9, m9, c9, rfl, hI9, _, _, hb9⟩
  have HX9 := hidden (HX8.out.next hb9)
  obtain rfl : EB.length = m9 := hI9.2.1
  have HA9 := hidden hI9
  clear hI9 hb9 k0 k1 k2 k3 HX8
  obtain ⟨k0, k1, k2, k3⟩ := HX9.out.2.cells
  go_wp2_with fail
  refine (HEN.out _ HX9.out.1).mono ?_
  rintro e wa ⟨ba, ma, ca, rfl, hIa, _, _, hba⟩
  have HXa := hidden (HX9.out.next hba)
  have HAa := hidden (HA9.out.below hba)
  obtain rfl : EB.length = ma := hIa.2.1
  have HBa := hidden hIa
  clear hIa hba k0 k1 k2 k3 HX9 HA9
  go_wp2_with fail
  refine (same_gen f3 _ HL3.out (HGW.out _ HXa.out.1)).mono ?_
  rintro e wb ⟨rfl, hbb⟩
  have HXb := hidden (HXa.out.next hbb)
  have HAb := hidden (HAa.out.below hbb)
  have HBb := hidden (HBa.out.below hbb)
  clear hbb HXa HAa HBa
  go_wp2_with fail
  refine (HRR.out _ HXb.out.1).mono ?_
  rintro e wc ⟨k5, t5, a5, m5, d5, u5, rfl, hR5⟩
  have HXc := hidden ((HXb.out.next hR5.2.1).next ((Below.refl _ _).alloc (Nat.le_refl _) (.cells #[.int .i64 k5, .int .i64 t5, .slice a5 m5 d5, .int .i64 u5] 56)))
  have HAc := hidden ((HAb.out.below hR5.2.1).below ((Below.refl _ _).alloc (Nat.le_refl _) (.cells #[.int .i64 k5, .int .i64 t5, .slice a5 m5 d5, .int .i64 u5] 56)))
  have HBc := hidden ((HBb.out.below hR5.2.1).below ((Below.refl _ _).alloc (Nat.le_refl _) (.cells #[.int .i64 k5, .int .i64 t5, .slice a5 m5 d5, .int .i64 u5] 56)))
  have HR5 := hidden hR5
  clear hR5 HXb HAb HBb
  go_wp2_with fail
  refine (HRD.out _ HXc.out.1).mono ?_
  rintro e wd ⟨k6, t6, a6, m6, d6, u6, rfl, hR6⟩
  obtain ⟨rfl, rfl, rfl, rfl, L6, hL5, hL6⟩ := reads_same HR5.out hR6
  have hbc : Below wc.heap.size wc (wc.alloc (.cells #[.int .i64 k5, .int .i64 t5, .slice a5 m5 d5, .int .i64 u5] 56)) := (Below.refl _ _).alloc (Nat.le_refl _) _
  have hbd : Below wd.heap.size wd (wd.alloc (.cells #[.int .i64 k5, .int .i64 t5, .slice a6 m5 d6, .int .i64 u5] 56)) := (Below.refl _ _).alloc (Nat.le_refl _) _
  have HXd := hidden ((HXc.out.next hR6.2.1).next hbd)
  have HAd := hidden ((HAc.out.below hR6.2.1).below hbd)
  have HBd := hidden ((HBc.out.below hR6.2.1).below hbd)
  have HYd := hidden (((BBox.new wc k5 t5 (.slice a5 m5 d5) u5).below hR6.2.1 (by simp)).below hbd (by have := hR6.2.1.size; simp at this; omega))
  have HZd := hidden (BBox.new wd k5 t5 (.slice a6 m5 d6) u5)
  have HL5 := hidden (((hL5.below hbc).below hR6.2.1).below hbd)
  have HL6 := hidden (hL6.below hbd)
  clear hbc hbd hR6 hL5 hL6 HR5 HXc HAc HBc
  go_wp2_with fail
  refine (same_gen f4 _ HL4.out (HGW.out _ HXd.out.1)).mono ?_
  rintro e we ⟨rfl, hbe⟩
  have HXe := hidden (HXd.out.next hbe)
  have HAe := hidden (HAd.out.below hbe)
  have HBe := hidden (HBd.out.below hbe)
  have HYe := hidden (HYd.out.below hbe HYd.out.lt)
  have HZe := hidden (HZd.out.below hbe HZd.out.lt)
  have HL5e := hidden (HL5.out.below hbe)
  have HL6e := hidden (HL6.out.below hbe)
  clear hbe HXd HAd HBd HYd HZd HL5 HL6
  obtain ⟨k0, k1, k2, k3⟩ := HYe.out.cells
  obtain ⟨j0, j1, j2, j3⟩ := HZe.out.cells
  go_wp2_with fail
  refine (same_bk k5 t5 u5 a6 a5 m5 d6 d5 L6 _ HL6e.out HL5e.out).mono ?_
  rintro e wf ⟨rfl, hbf⟩
  have HXf := hidden (HXe.out.next hbf)
  have v1 := str_conv (cap := c9) (HAe.out.below hbf)
  have v2 := str_conv (cap := ca) (HBe.out.below hbf)
  clear hbf HXe HAe HBe HYe HZe HL5e HL6e k0 k1 k2 k3 j0 j1 j2 j3
  generalize str EB = S at *
  go_wp2_with fail
  go_ret
  exact ⟨by simp, HXf.out.1⟩
end Go.Proofs.YtjhfjkacfnccdabDoor.BP
