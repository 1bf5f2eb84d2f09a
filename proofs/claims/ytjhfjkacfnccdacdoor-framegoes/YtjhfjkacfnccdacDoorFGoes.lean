/-
  The walk of the Go function FrameGoes: it returns true at any frame and any bytes, at most 2^47. It changes nothing that was there. Its condition: package errors' variable errorType is as its text lays it.
-/
import Derived.Test.YtjhfjkacfnccdacDoorRFrame3
import Derived.Test.YtjhfjkacfnccdacDoorTold
namespace Go.Proofs.YtjhfjkacfnccdacDoor.FGoes
open Go.ChangeShapes Go.WideShapes Go.ChangeAt Go.RowKit Go.Proofs.YtjhfjkacfnccdacDoor.PM Go.Proofs.YtjhfjkacfnccdacDoor.Mem Go.Proofs.YtjhfjkacfnccdacDoor.Pack Go.Proofs.YtjhfjkacfnccdacDoor.FM Go.Proofs.YtjhfjkacfnccdacDoor.Frame Go.Proofs.YtjhfjkacfnccdacDoor.RFrame
set_option linter.unusedVariables false

theorem same_gen (e : Nat) (w : World) (he : e ≤ 100) (hg : w.cell? ⟨0, 0, none⟩ = some (.iface 81 (.agg #[.pointer (some ⟨1, 29, none⟩)]))) :
    Calls Tryd.prog 7 #[errv e, .int .i64 (e : Int)] w fun ev w' => ev = .returned (.bool true) ∧ Below w.heap.size w w' := by
  by_cases h : e = 0
  · subst h
    refine (Told.same_nil 0 w).mono ?_
    rintro ev w' ⟨rfl, rfl⟩
    exact ⟨rfl, Below.refl _ _⟩
  · rw [errv_pos h]
    refine (Told.same_err (e : Int) (e : Int) w (by omega) (by omega) hg).mono ?_
    rintro ev w' ⟨rfl, hb⟩
    exact ⟨by simp, hb⟩
theorem lt_of_cell {w : World} {v : Value} (h : w.cell? ⟨0, 0, none⟩ = some v) : 0 < w.heap.size := by
  rcases Nat.eq_zero_or_pos w.heap.size with h0 | h'
  · simp [World.cell?, h0] at h
  · exact h'
theorem same_self (t o e p : Int) (a b : Option Addr) (n m cap cap' : Nat) (L : List Nat) (w : World) (hA : Arg w a n L) (hB : Arg w b m L) :
    Calls Tryd.prog 12 #[.agg #[.int .i64 t, .int .i64 o, .int .i64 e, .int .i64 p, .slice a n cap], .agg #[.int .i64 t, .int .i64 o, .int .i64 e, .int .i64 p, .slice b m cap']] w fun ev w' => ev = .returned (.bool true) ∧ Below w.heap.size w w' := by
  refine (same_fr t o e p t o e p a b n m cap cap' L L w hA hB).mono ?_
  rintro ev w' ⟨rfl, hb⟩
  exact ⟨by simp, hb⟩
/-- nothing that was there has changed, and f is in its variable -/
def St (w wx : World) (t o e p : Int) (bv : Value) : Prop := Below w.heap.size w wx ∧ FBox wx w.heap.size t o e p bv
theorem St.new (w : World) (t o e p : Int) (bv : Value) : St w (w.alloc (.cells #[.int .i64 t, .int .i64 o, .int .i64 e, .int .i64 p, bv] 24)) t o e p bv := ⟨(Below.refl _ _).alloc (Nat.le_refl _) _, FBox.new w t o e p bv⟩
theorem St.next {w wx wy : World} {t o e p : Int} {bv : Value} (h : St w wx t o e p bv) (hb : Below wx.heap.size wx wy) : St w wy t o e p bv := ⟨h.1.trans (hb.mono h.1.size), h.2.below hb h.2.lt⟩
theorem alloc_below (w : World) (O : Obj) : Below w.heap.size w (w.alloc O) := (Below.refl _ _).alloc (Nat.le_refl _) O

/-- FrameBytes of a frame that is right -/
theorem rfb_all (t o e p : Int) (a : Option Addr) (n cap : Nat) (B : List Nat) (w : World) (h : Arg w a n B) (hn : a = none → n = 0 ∧ cap = 0) (hf : ffault t o e p B = 0) :
    Calls Tryd.prog 6 #[.agg #[.int .i64 t, .int .i64 o, .int .i64 e, .int .i64 p, .slice a n cap]] w fun ev w' => ∃ a' m c', ev = .returned (.slice a' m c') ∧ Below w.heap.size w w' ∧ Arg w' a' m (fenc t o e p B) := by
  obtain ⟨t', o', e', p', rfl, rfl, rfl, rfl, h1, h2, h3, h4, h5, h6⟩ := ffault_zero hf
  rw [fenc_good hf]
  exact rframebytes_calls t' o' e' p' a n cap B w h hn h2 h3 h4 h5 (by have := (rfault_len h6).2; have := h.2.1; omega)

set_option maxHeartbeats 4000000 in
set_option maxRecDepth 100000 in
theorem walk (t o e p : Int) (a : Option Addr) (n cap : Nat) (B : List Nat) (a1 : Option Addr) (n1 cap1 : Nat) (K : List Nat) (w : World) (hg : w.cell? ⟨0, 0, none⟩ = some (.iface 81 (.agg #[.pointer (some ⟨1, 29, none⟩)])))
    (h : Arg w a n B) (hn : a = none → n = 0 ∧ cap = 0) (hc : n ≤ cap) (h1 : Arg w a1 n1 K) (hc1 : n1 ≤ cap1) (hr : n1 ≤ 140737488355328) :
    Calls Tryd.prog 3 #[.agg #[.int .i64 t, .int .i64 o, .int .i64 e, .int .i64 p, .slice a n cap], .slice a1 n1 cap1] w fun ev w' => ev = .returned (.bool true) ∧ Below w.heap.size w w' := by
  have HRF := hidden (fun W h => rframe_calls t o e p a n cap B W h hc)
  have HRB := hidden (fun W h hf => rfb_all t o e p a n cap B W h hn hf)
  have HCK := hidden (fun W h => fcheck_calls t o e p a n cap B W h hc)
  have HEN := hidden (fun W h => fencode_all t o e p a n cap B W h hn hc)
  have HE0 : Hid (ffault t o e p B ≠ 0 → fenc t o e p B = []) := fun h => by unfold fenc; rw [if_neg h]
  have HRR := hidden (fun W h => rreadframe_all a1 n1 cap1 K W h hc1)
  have HRD := hidden (fun W h => fread_all a1 n1 cap1 K W h hc1 hr)
  have HPS := hidden (fun W h => fpass_all a1 n1 cap1 K W h hc1 hr)
  have hfl := ffault_le t o e p B
  have hbl := bfault_le K
  have hpl := pfault_le K
  have hgood : bfault K = 0 → _ := fun hz => bfr_good (B := K) hz
  have hpf : pfault K = if bfault K = 0 then (if (bfr K).hp = 64 then 6 else 0) else bfault K := rfl
  have hpb : pbytes K = if pfault K = 0 then fbytes (bfr K).tr (bfr K).og (bfr K).ep ((bfr K).hp + 1) (bfr K).body else [] := rfl
  have HER := hidden same_gen
  generalize ffault t o e p B = f at *
  generalize fenc t o e p B = EB at *
  generalize bfr K = F at *
  obtain ⟨ft, fo, fe, fp, FB⟩ := F
  simp only at HRR HRD hgood hpf hpb
  generalize bfault K = q at *
  generalize pfault K = pf at *
  generalize pbytes K = PB at *
  obtain ⟨bf, hbf⟩ : ∃ b, ((f : Int) == 0) = b := ⟨_, rfl⟩
  have HBF : Hid (bf = decide (f = 0)) := by
    show bf = decide (f = 0)
    rw [← hbf]
    by_cases p : f = 0
    · subst p; rfl
    · simp [p]
  have HGO := hidden hgood
  have HPF := hidden hpf
  have HPB := hidden hpb
  have HA := hidden h
  have HK := hidden h1
  have HG := hidden hg
  clear h h1 hg hgood hpf hpb hn
  go_enter Tryd.func3, Tryd.ntmps3
  go_wp2_with fail
  refine (HRF.out _ (HA.out.below (St.new w t o e p (.slice a n cap)).1)).mono ?_
  rintro ev w1 ⟨rfl, hb1⟩
  have HX := hidden ((St.new w t o e p (.slice a n cap)).next hb1)
  clear hb1 HRF
  obtain ⟨c0, c1, c2, c3, c4⟩ := HX.out.2.cells
  go_upto_if 21 with fail
  go_cut [6] from 18 (fun x wx => ∃ aw mw cw, x = .slice aw mw cw ∧ Hid (St w wx t o e p (.slice a n cap) ∧ Arg wx aw mw EB))
  case first =>
    cases bf with
    | true =>
      have HF0 : Hid (f = 0) := by have := HBF.out; exact (by simpa using this : f = 0)
      go_wp2_with fail
      refine (HRB.out _ (HA.out.below HX.out.1) HF0.out).mono ?_
      rintro ev w2 ⟨a2, m2, k2, rfl, hb2, hE2⟩
      have HX2 : Hid (St w w2 t o e p (.slice a n cap) ∧ Arg w2 a2 m2 EB) := ⟨HX.out.next hb2, hE2⟩
      clear hb2 hE2
      go_wp2_with fail
      go_meet
      exact ⟨a2, m2, k2, rfl, HX2⟩
    | false =>
      have HEE : Hid (EB = []) := HE0.out (by have := HBF.out; simpa using this)
      go_wp2_with fail
      go_meet
      exact ⟨none, 0, 0, rfl, HX.out, by rw [HEE.out]; exact ⟨Bys.nil _ _, rfl, by omega⟩⟩
  case rest =>
  obtain ⟨aw, mw, cw, rfl, HX3⟩ := hcut
  clear c0 c1 c2 c3 c4 HX HRB HE0
  obtain ⟨c0, c1, c2, c3, c4⟩ := HX3.out.1.2.cells
  go_wp2_with fail
  refine (HCK.out _ (HA.out.below HX3.out.1.1)).mono ?_
  rintro ev w4 ⟨rfl, hb4⟩
  have HX4 := hidden (HX3.out.1.next hb4)
  have HW4 := hidden (HX3.out.2.below hb4)
  have HG4 := hidden ((HX4.out.1.cell (p := ⟨0, 0, none⟩) (lt_of_cell HG.out)).trans HG.out)
  clear hb4 c0 c1 c2 c3 c4 HX3 HCK
  go_wp2_with fail
  refine (HER.out f _ hfl HG4.out).mono ?_
  rintro ev w5 ⟨rfl, hb5⟩
  have HX5 := hidden (HX4.out.next hb5)
  have HW5 := hidden (HW4.out.below hb5)
  clear hb5 HX4 HW4 HG4
  obtain ⟨c0, c1, c2, c3, c4⟩ := HX5.out.2.cells
  go_wp2_with fail
  refine (HEN.out _ (HA.out.below HX5.out.1)).mono ?_
  rintro ev w6 ⟨a6, m6, k6, rfl, hb6, hE6, _, _⟩
  have HX6 := hidden (HX5.out.next hb6)
  have HW6 := hidden (HW5.out.below hb6)
  have HY6 := hidden hE6
  have HG6 := hidden ((HX6.out.1.cell (p := ⟨0, 0, none⟩) (lt_of_cell HG.out)).trans HG.out)
  clear hb6 hE6 c0 c1 c2 c3 c4 HX5 HW5 HEN
  go_wp2_with fail
  refine (HER.out f _ hfl HG6.out).mono ?_
  rintro ev w7 ⟨rfl, hb7⟩
  have HX7 := hidden (HX6.out.next hb7)
  have HW7 := hidden (HW6.out.below hb7)
  have HY7 := hidden (HY6.out.below hb7)
  clear hb7 HX6 HW6 HY6 HG6
  go_wp2_with fail
  refine (HRR.out _ (HK.out.below HX7.out.1)).mono ?_
  rintro ev w8 ⟨a8, m8, k8, rfl, hb8, hE8, hc8, hn8⟩
  have HX8 := hidden (HX7.out.next hb8)
  have HW8 := hidden (HW7.out.below hb8)
  have HY8 := hidden (HY7.out.below hb8)
  have HQ8 := hidden hE8
  have HN8 := hidden hn8
  clear hb8 hE8 hn8 HX7 HW7 HY7 HRR
  go_wp2_with fail
  refine (HRD.out _ (HK.out.below (HX8.out.next (alloc_below _ _)).1)).mono ?_
  rintro ev w9 ⟨a9, m9, k9, rfl, hb9, hE9, _, _, _⟩
  have HB9 : Hid (Below w8.heap.size w8 w9) := (alloc_below _ _).trans (hb9.mono (by simp))
  have HR9 := hidden hE9
  have HV9 := hidden ((FBox.new w8 ft fo fe fp (.slice a8 m8 k8)).below hb9 (by simp))
  have hl89 : w8.heap.size < w9.heap.size := HV9.out.lt
  have hw8 : w.heap.size < w8.heap.size := HX8.out.2.lt
  clear hb9 hE9 HRD
  have HBW : Hid (∀ W, Below w8.heap.size w8 W → Below w.heap.size w W) := fun W hW => HX8.out.1.trans (hW.mono HX8.out.1.size)
  have HGW : Hid (∀ W, Below w8.heap.size w8 W → W.cell? ⟨0, 0, none⟩ = some (.iface 81 (.agg #[.pointer (some ⟨1, 29, none⟩)]))) := fun W hW => ((HBW.out W hW).cell (p := ⟨0, 0, none⟩) (lt_of_cell HG.out)).trans HG.out
  have HB9' : Hid (∀ O, Below w8.heap.size w8 (w9.alloc O)) := fun O => HB9.out.alloc HB9.out.size O
  go_wp2_with fail
  refine (HER.out q _ hbl (HGW.out _ (HB9'.out _))).mono ?_
  rintro ev w10 ⟨rfl, hb10⟩
  have HB10 : Hid (Below w8.heap.size w8 w10) := (HB9'.out _).trans (hb10.mono (by simp; omega))
  have HR10 := hidden ((HR9.out.below (alloc_below _ _)).below hb10)
  have HV10 := hidden ((HV9.out.alloc _).below hb10 (by simp; omega))
  have HU10 := hidden ((FBox.new w9 ft fo fe fp (.slice a9 m9 k9)).below hb10 (by simp))
  clear hb10 HR9 HV9 HB9 HB9'
  obtain ⟨d0, d1, d2, d3, d4⟩ := HV10.out.cells
  obtain ⟨u0, u1, u2, u3, u4⟩ := HU10.out.cells
  go_wp2_with fail
  refine (same_self ft fo fe fp a9 a8 m9 m8 k9 k8 FB _ HR10.out (HQ8.out.below HB10.out)).mono ?_
  rintro ev w11 ⟨rfl, hb11⟩
  have HB11 : Hid (Below w8.heap.size w8 w11) := HB10.out.trans (hb11.mono HB10.out.size)
  have HV11 := hidden (HV10.out.below hb11 HV10.out.lt)
  clear hb11 HR10 HV10 HU10 HB10 d0 d1 d2 d3 d4 u0 u1 u2 u3 u4
  obtain ⟨d0, d1, d2, d3, d4⟩ := HV11.out.cells
  by_cases hq : q = 0
  · subst hq
    obtain ⟨g1, g2, g3, g4, g5, g6⟩ := HGO.out rfl
    by_cases h64 : fp = 64
    · subst h64
      have hpz : pf = 6 := by have := HPF.out; rw [if_pos rfl, if_pos rfl] at this; exact this
      have hpe : PB = [] := by have := HPB.out; rw [hpz, if_neg (by omega)] at this; exact this
      subst hpz
      subst hpe
      clear HGO HPF HPB
      go_wp2_with fail
      refine (HPS.out _ (HK.out.below (HBW.out _ HB11.out))).mono ?_
      rintro ev w20 ⟨a20, m20, k20, rfl, hb20, hE20, _, _⟩
      have HB20 : Hid (Below w8.heap.size w8 w20) := HB11.out.trans (hb20.mono HB11.out.size)
      have HE20 := hidden hE20
      clear hb20 hE20
      go_wp2_with fail
      refine (HER.out 6 _ hpl (HGW.out _ HB20.out)).mono ?_
      rintro ev w21 ⟨rfl, hb21⟩
      have HB21 : Hid (Below w8.heap.size w8 w21) := HB20.out.trans (hb21.mono HB20.out.size)
      have s1 := str_conv (cap := cw) (HW8.out.below HB21.out)
      have s2 := str_conv (cap := k6) (HY8.out.below HB21.out)
      have s3 := str_conv (cap := k20) (HE20.out.below hb21)
      have s4 : (convert 22 9 (.slice none 0 0)).run Tryd.prog w21 = .ok (.string (str [])) w21 := str_conv ⟨Bys.nil _ _, rfl, by omega⟩
      clear hb21
      generalize str EB = SE at *
      generalize str [] = SP at *
      go_wp2_with fail
      go_ret
      exact ⟨by simp, HBW.out _ HB21.out⟩
    · have hpz : pf = 0 := by have := HPF.out; rw [if_pos rfl, if_neg h64] at this; exact this
      have hpe : PB = fbytes ft fo fe (fp + 1) FB := by have := HPB.out; rw [hpz, if_pos rfl] at this; exact this
      subst hpz
      have d64 : ((fp : Int) == 64) = false := by rw [beq_eq_false_iff_ne]; omega
      have HPE := hidden hpe
      have hm8 : m8 ≤ 1008 := by have := (rfault_len g6).2; have := HQ8.out.2.1; omega
      have HFB : Hid (∀ W, Arg W a8 m8 FB → Calls Tryd.prog 6 #[.agg #[.int .i64 (ft : Int), .int .i64 (fo : Int), .int .i64 (fe : Int), .int .i64 ((fp : Int) + 1), .slice a8 m8 k8]] W fun ev w' => ∃ a' m c', ev = .returned (.slice a' m c') ∧ Below W.heap.size W w' ∧ Arg w' a' m PB) := fun W hW => by
        rw [HPE.out]
        exact rframebytes_calls ft fo fe (fp + 1) a8 m8 k8 FB W hW HN8.out g2 g3 g4 (by omega) hm8
      have HB12 : Hid (Below w8.heap.size w8 (w11.setCell ⟨w8.heap.size, 3, none⟩ (.int .i64 ((fp : Int) + 1)))) := HB11.out.setCell (p := ⟨w8.heap.size, 3, none⟩) (Nat.le_refl _) _
      have HV12 := hidden (HV11.out.hop ((fp : Int) + 1))
      have fz := HV11.out.free 3
      obtain ⟨z0, z1, z2, z3, z4⟩ := HV12.out.cells
      clear HGO HPF HPB hpe
      go_wp2_with fail
      refine (HFB.out _ (HQ8.out.below HB12.out)).mono ?_
      rintro ev w12 ⟨a12, m12, k12, rfl, hb12, hE12⟩
      have HB13 : Hid (Below w8.heap.size w8 w12) := HB12.out.trans (hb12.mono HB12.out.size)
      have HZ := hidden hE12
      clear hb12 hE12 z0 z1 z2 z3 z4 d0 d1 d2 d3 d4
      go_wp2_with fail
      refine (HPS.out _ (HK.out.below (HBW.out _ HB13.out))).mono ?_
      rintro ev w20 ⟨a20, m20, k20, rfl, hb20, hE20, _, _⟩
      have HB20 : Hid (Below w8.heap.size w8 w20) := HB13.out.trans (hb20.mono HB13.out.size)
      have HE20 := hidden hE20
      have HZ20 := hidden (HZ.out.below hb20)
      clear hb20 hE20
      go_wp2_with fail
      refine (HER.out 0 _ hpl (HGW.out _ HB20.out)).mono ?_
      rintro ev w21 ⟨rfl, hb21⟩
      have HB21 : Hid (Below w8.heap.size w8 w21) := HB20.out.trans (hb21.mono HB20.out.size)
      have s1 := str_conv (cap := cw) (HW8.out.below HB21.out)
      have s2 := str_conv (cap := k6) (HY8.out.below HB21.out)
      have s3 := str_conv (cap := k20) (HE20.out.below hb21)
      have s4 := str_conv (cap := k12) (HZ20.out.below hb21)
      clear hb21
      generalize str EB = SE at *
      generalize str PB = SP at *
      go_wp2_with fail
      go_ret
      exact ⟨by simp, HBW.out _ HB21.out⟩
  · have hpz : pf = q := by have := HPF.out; rw [if_neg hq] at this; exact this
    have hpe : PB = [] := by have := HPB.out; rw [hpz, if_neg hq] at this; exact this
    subst hpz
    subst hpe
    have dq : ((pf : Int) == 0) = false := by rw [beq_eq_false_iff_ne]; omega
    clear HGO HPF HPB
    go_wp2_with fail
    refine (HPS.out _ (HK.out.below (HBW.out _ HB11.out))).mono ?_
    rintro ev w20 ⟨a20, m20, k20, rfl, hb20, hE20, _, _⟩
    have HB20 : Hid (Below w8.heap.size w8 w20) := HB11.out.trans (hb20.mono HB11.out.size)
    have HE20 := hidden hE20
    clear hb20 hE20
    go_wp2_with fail
    refine (HER.out pf _ hpl (HGW.out _ HB20.out)).mono ?_
    rintro ev w21 ⟨rfl, hb21⟩
    have HB21 : Hid (Below w8.heap.size w8 w21) := HB20.out.trans (hb21.mono HB20.out.size)
    have s1 := str_conv (cap := cw) (HW8.out.below HB21.out)
    have s2 := str_conv (cap := k6) (HY8.out.below HB21.out)
    have s3 := str_conv (cap := k20) (HE20.out.below hb21)
    have s4 : (convert 22 9 (.slice none 0 0)).run Tryd.prog w21 = .ok (.string (str [])) w21 := str_conv ⟨Bys.nil _ _, rfl, by omega⟩
    clear hb21
    generalize str EB = SE at *
    generalize str [] = SP at *
    go_wp2_with fail
    go_ret
    exact ⟨by simp, HBW.out _ HB21.out⟩
end Go.Proofs.YtjhfjkacfnccdacDoor.FGoes
