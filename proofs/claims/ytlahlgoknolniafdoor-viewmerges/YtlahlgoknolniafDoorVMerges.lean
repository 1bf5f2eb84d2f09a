/-
  The walk of the Go function ViewMerges: it returns true at any two views, any node, told up or not. It changes nothing that was there. Its condition: package errors' variable errorType is as its text lays it.
-/
import Derived.Test.YtlahlgoknolniafDoorRView
import Derived.Test.YtlahlgoknolniafDoorTold
namespace Go.Proofs.YtlahlgoknolniafDoor.VMerges
open Go.ChangeShapes Go.WideShapes Go.ChangeAt Go.RowKit Go.Proofs.YtlahlgoknolniafDoor.Mem Go.Proofs.YtlahlgoknolniafDoor.VM Go.Proofs.YtlahlgoknolniafDoor.View
set_option linter.unusedVariables false

theorem same_gen (e : Nat) (w : World) (he : e ≤ 100) (hg : w.cell? ⟨0, 0, none⟩ = some (.iface 93 (.agg #[.pointer (some ⟨1, 25, none⟩)]))) :
    Calls Tryd.prog 8 #[errv e, .int .i64 (e : Int)] w fun ev w' => ev = .returned (.bool true) ∧ Below w.heap.size w w' := by
  by_cases h : e = 0
  · subst h
    refine (Told.same_nil 0 w).mono ?_
    rintro ev w' ⟨rfl, rfl⟩
    exact ⟨rfl, Below.refl _ _⟩
  · rw [errv_pos h]
    refine (Told.same_err (e : Int) (e : Int) w (by omega) (by omega) hg).mono ?_
    rintro ev w' ⟨rfl, hb⟩
    exact ⟨by simp, hb⟩
theorem same_zero (w : World) : Calls Tryd.prog 8 #[.nilIface, .int .i64 0] w fun ev w' => ev = .returned (.bool true) ∧ Below w.heap.size w w' := by
  refine (Told.same_nil 0 w).mono ?_
  rintro ev w' ⟨rfl, rfl⟩
  exact ⟨rfl, Below.refl _ _⟩
theorem lt_of_cell {w : World} {v : Value} (h : w.cell? ⟨0, 0, none⟩ = some v) : 0 < w.heap.size := by
  rcases Nat.eq_zero_or_pos w.heap.size with h0 | h'
  · simp [World.cell?, h0] at h
  · exact h'
set_option maxHeartbeats 1000000 in
set_option maxRecDepth 100000 in
theorem ints_same (a b : Option Addr) (n cap cap' : Nat) (L : List Int) (w : World) (hA : IArg w a n L) (hB : IArg w b n L) :
    Calls Tryd.prog 21 #[.slice a n cap, .slice b n cap'] w fun e w' => e = .returned (.bool true) ∧ Below w.heap.size w w' := by
  have hn := hA.2.2
  have HA := hidden hA
  have HB := hidden hB
  clear hA hB
  go_enter Tryd.func21, Tryd.ntmps21
  go_wp2_with fail
  go_loopg [5] n (fun g y wr => ∃ (i : Nat), i + g = n ∧ y = .int .i64 (i : Int) ∧ Hid (Below w.heap.size w wr))
  case atStart => exact ⟨0, by omega, rfl, Below.refl _ _⟩
  case round =>
    obtain ⟨i, hig, rfl, HW⟩ := hrel
    by_cases hi : i < n
    · have hiz : (i : Int) < (n : Int) := by omega
      obtain ⟨b1, o1, rfl, h1⟩ := (HA.out.below HW.out).at (by omega)
      obtain ⟨b2, o2, rfl, h2⟩ := (HB.out.below HW.out).at (by omega)
      have c1 := h1 i hi
      have c2 := h2 i hi
      clear h1 h2
      generalize L.getD i 0 = x at *
      go_wp2_with fail
      go_quiet (fail)
      go_wp2_with fail
      go_roundg (n - (i + 1))
      case measure => omega
      case rel => exact ⟨i + 1, by omega, by go_num, hidden (below_drewN' HW.out _)⟩
    · have hiz : ¬ (i : Int) < (n : Int) := by omega
      go_wp2_with fail
      go_ret
      exact ⟨rfl, HW.out⟩

set_option maxHeartbeats 8000000 in
set_option maxRecDepth 100000 in
theorem first_bad (a : Option Addr) (n cap : Nat) (A : List Mb) (b : Option Addr) (k cb : Nat) (B : List Mb) (x : Int) (u : Bool) (w : World)
    (hg : w.cell? ⟨0, 0, none⟩ = some (.iface 93 (.agg #[.pointer (some ⟨1, 25, none⟩)]))) (hA : MArg w a n A) (hnA : a = none → n = 0 ∧ cap = 0) (hB : MArg w b k B) (hz : vf A ≠ 0) :
    Calls Tryd.prog 4 #[.slice a n cap, .slice b k cb, .int .i64 x, .bool u] w fun e w' => e = .returned (.bool true) ∧ Below w.heap.size w w' := by
  have HGW : Hid (∀ W, Below w.heap.size w W → W.cell? ⟨0, 0, none⟩ = some (.iface 93 (.agg #[.pointer (some ⟨1, 25, none⟩)]))) := fun W hW => (hW.cell (p := ⟨0, 0, none⟩) (lt_of_cell hg)).trans hg
  have HV : Hid (∀ W, Below w.heap.size w W → Calls Tryd.prog 13 #[.slice a n cap] W fun e w' => e = .returned (.int .i64 (vf A : Nat)) ∧ Below W.heap.size W w') := fun W hW => rview_calls a n cap A W (hA.below hW)
  have HVB : Hid (∀ W, Below w.heap.size w W → Calls Tryd.prog 13 #[.slice b k cb] W fun e w' => e = .returned (.int .i64 (vf B : Nat)) ∧ Below W.heap.size W w') := fun W hW => rview_calls b k cb B W (hB.below hW)
  have HCK : Hid (∀ W, Below w.heap.size w W → Calls Tryd.prog 14 #[.slice a n cap] W fun e w' => e = .returned (errv (vf A)) ∧ Below W.heap.size W w') := fun W hW => check_calls a n cap A W (hA.below hW)
  have HMG : Hid (∀ W, Below w.heap.size w W → Calls Tryd.prog 17 #[.slice a n cap, .slice b k cb] W fun e w' => ∃ a' q c', e = .returned (.tuple #[.slice a' q c', errv (mf A B)]) ∧ MArg w' a' q (mgd A B) ∧ q ≤ c' ∧ (a' = none → q = 0 ∧ c' = 0) ∧ Below W.heap.size W w') := fun W hW => merge_calls a n cap A b k cb B W (hA.below hW) hnA (hB.below hW)
  have HNW : Hid (∀ W, Below w.heap.size w W → Calls Tryd.prog 18 #[.slice a n cap, .slice b k cb] W fun e w' => ∃ a' q c', e = .returned (.tuple #[.slice a' q c', errv (mf A B)]) ∧ MArg w' a' q (nwd A B) ∧ q ≤ c' ∧ (a' = none → q = 0 ∧ c' = 0) ∧ Below W.heap.size W w') := fun W hW => newer_calls a n cap A b k cb B W (hA.below hW) (hB.below hW)
  have HAL : Hid (∀ W, Below w.heap.size w W → Calls Tryd.prog 20 #[.slice a n cap] W fun e w' => ∃ a' q c', e = .returned (.tuple #[.slice a' q c', errv (vf A)]) ∧ IArg w' a' q (ald A) ∧ q ≤ c' ∧ Below W.heap.size W w') := fun W hW => alive_calls a n cap A W (hA.below hW)
  have HBU : Hid (∀ W, Below w.heap.size w W → Calls Tryd.prog 22 #[.slice a n cap, .int .i64 x, .bool u] W fun e w' => ∃ a' q c', e = .returned (.tuple #[.slice a' q c', errv (bf A x)]) ∧ MArg w' a' q (bmp A x u) ∧ q ≤ c' ∧ (a' = none → q = 0 ∧ c' = 0) ∧ Below W.heap.size W w') := fun W hW => bump_calls a n cap A x u W (hA.below hW) hnA
  have e1 : mf A B = vf A := by unfold mf; rw [if_neg hz]
  have e2 : mgd A B = [] := by unfold mgd; rw [if_neg (by rw [e1]; exact hz)]
  have e3 : nwd A B = [] := by unfold nwd; rw [if_neg (by rw [e1]; exact hz)]
  have e4 : ald A = [] := by unfold ald; rw [if_neg hz]
  have e5 : bf A x = vf A := by unfold bf; rw [if_neg hz]
  have e6 : bmp A x u = [] := by unfold bmp; rw [if_neg (by rw [e5]; exact hz)]
  have hn0 : 0 < n := by
    rcases Nat.eq_zero_or_pos n with h0 | h0
    · have : A = [] := List.eq_nil_of_length_eq_zero (by rw [hA.2.1, h0])
      rw [this] at hz
      exact absurd (fit_iff.2 Fit.nil) hz
    · exact h0
  rw [e1, e2] at HMG
  rw [e1, e3] at HNW
  rw [e4] at HAL
  rw [e5, e6] at HBU
  have hf100 := vf_le A
  generalize vf A = f at *
  clear e1 e2 e3 e4 e5 e6 hA hB hnA hg HVB
  have hz1 : ((f : Int) == 0) = false := by simp; omega
  have hz2 : (f == 0) = false := by simpa using hz
  have hn1 : decide ((0 : Int) < (n : Int)) = true := by simp; omega
  have hn2 : decide (0 < n) = true := by simpa using hn0
  have HW0 := hidden (Below.refl w.heap.size w)
  go_enter Tryd.func4, Tryd.ntmps4
  go_wp2_with fail
  refine (HV.out _ HW0.out).mono ?_
  rintro e w1 ⟨rfl, hb1⟩
  have HW1 : Hid (Below w.heap.size w w1) := HW0.out.trans (hb1.mono HW0.out.size)
  clear hb1 HW0  HV
  go_wp2_with fail
  refine (HCK.out _ HW1.out).mono ?_
  rintro e w2 ⟨rfl, hb2⟩
  have HW2 : Hid (Below w.heap.size w w2) := HW1.out.trans (hb2.mono HW1.out.size)
  clear hb2 HW1  HCK
  go_wp2_with fail
  refine (same_gen f _ hf100 (HGW.out _ HW2.out)).mono ?_
  rintro e w3 ⟨rfl, hb3⟩
  have HW3 : Hid (Below w.heap.size w w3) := HW2.out.trans (hb3.mono HW2.out.size)
  clear hb3 HW2  
  go_wp2_with fail
  refine (HMG.out _ HW3.out).mono ?_
  rintro e w4 ⟨am, qm, cm, rfl, hm, _, _, hb4⟩
  have HW4 : Hid (Below w.heap.size w w4) := HW3.out.trans (hb4.mono HW3.out.size)
  have Hm4 := hidden hm
  clear hb4 HW3  hm HMG
  obtain rfl : 0 = qm := Hm4.out.2.1
  go_wp2_with fail
  refine (same_gen f _ hf100 (HGW.out _ HW4.out)).mono ?_
  rintro e w5 ⟨rfl, hb5⟩
  have HW5 : Hid (Below w.heap.size w w5) := HW4.out.trans (hb5.mono HW4.out.size)
  have Hm5 := hidden (Hm4.out.below hb5)
  clear hb5 HW4 Hm4 
  go_wp2_with fail
  refine (HNW.out _ HW5.out).mono ?_
  rintro e w6 ⟨an, qn, cn, rfl, hn, _, _, hb6⟩
  have HW6 : Hid (Below w.heap.size w w6) := HW5.out.trans (hb6.mono HW5.out.size)
  have Hm6 := hidden (Hm5.out.below hb6)
  have Hn6 := hidden hn
  clear hb6 HW5 Hm5 hn HNW
  obtain rfl : 0 = qn := Hn6.out.2.1
  go_wp2_with fail
  refine (same_gen f _ hf100 (HGW.out _ HW6.out)).mono ?_
  rintro e w7 ⟨rfl, hb7⟩
  have HW7 : Hid (Below w.heap.size w w7) := HW6.out.trans (hb7.mono HW6.out.size)
  have Hm7 := hidden (Hm6.out.below hb7)
  have Hn7 := hidden (Hn6.out.below hb7)
  clear hb7 HW6 Hm6 Hn6 
  go_wp2_with fail
  refine (mbrs_same am none 0 cm 0 [] _ Hm7.out (MArg.nil _ _)).mono ?_
  rintro e w8 ⟨rfl, hb8⟩
  have HW8 : Hid (Below w.heap.size w w8) := HW7.out.trans (hb8.mono HW7.out.size)
  have Hn8 := hidden (Hn7.out.below hb8)
  clear hb8 HW7 Hm7 Hn7 
  go_wp2_with fail
  refine (mbrs_same an none 0 cn 0 [] _ Hn8.out (MArg.nil _ _)).mono ?_
  rintro e w9 ⟨rfl, hb9⟩
  have HW9 : Hid (Below w.heap.size w w9) := HW8.out.trans (hb9.mono HW8.out.size)
  clear hb9 HW8 Hn8 
  go_wp2_with fail
  go_loopg [24, 25] 0 (fun _ s y wr => s = .slice none 0 0 ∧ y = .int .i64 0 ∧ Hid (Below w.heap.size w wr))
  case atStart => exact ⟨rfl, rfl, HW9⟩
  case round =>
    obtain ⟨rfl, rfl, HW10⟩ := hrel
    clear HW9
    obtain ⟨w10, hwr⟩ : ∃ z, z = wr := ⟨_, rfl⟩
    rw [← hwr] at HW10
    subst hwr
    go_wp2_with fail
    refine (HAL.out _ HW10.out).mono ?_
    rintro e w11 ⟨al, ql, cl, rfl, hl, _, hb11⟩
    have HW11 : Hid (Below w.heap.size w w11) := HW10.out.trans (hb11.mono HW10.out.size)
    have Hl11 := hidden hl
    clear hb11 HW10  hl HAL
    obtain rfl : 0 = ql := Hl11.out.2.1
    go_wp2_with fail
    refine (same_gen f _ hf100 (HGW.out _ HW11.out)).mono ?_
    rintro e w12 ⟨rfl, hb12⟩
    have HW12 : Hid (Below w.heap.size w w12) := HW11.out.trans (hb12.mono HW11.out.size)
    have Hl12 := hidden (Hl11.out.below hb12)
    clear hb12 HW11 Hl11 
    go_wp2_with fail
    refine (ints_same al none 0 cl 0 [] _ Hl12.out (IArg.nil _ _)).mono ?_
    rintro e w13 ⟨rfl, hb13⟩
    have HW13 : Hid (Below w.heap.size w w13) := HW12.out.trans (hb13.mono HW12.out.size)
    clear hb13 HW12 Hl12 
    go_wp2_with fail
    refine (HBU.out _ HW13.out).mono ?_
    rintro e w14 ⟨at1, qt, ct, rfl, ht, _, _, hb14⟩
    have HW14 : Hid (Below w.heap.size w w14) := HW13.out.trans (hb14.mono HW13.out.size)
    have Ht14 := hidden ht
    clear hb14 HW13  ht HBU
    obtain rfl : 0 = qt := Ht14.out.2.1
    go_wp2_with fail
    refine (same_gen f _ hf100 (HGW.out _ HW14.out)).mono ?_
    rintro e w15 ⟨rfl, hb15⟩
    have HW15 : Hid (Below w.heap.size w w15) := HW14.out.trans (hb15.mono HW14.out.size)
    have Ht15 := hidden (Ht14.out.below hb15)
    clear hb15 HW14 Ht14 
    go_wp2_with fail
    refine (mbrs_same at1 none 0 ct 0 [] _ Ht15.out (MArg.nil _ _)).mono ?_
    rintro e w16 ⟨rfl, hb16⟩
    have HW16 : Hid (Below w.heap.size w w16) := HW15.out.trans (hb16.mono HW15.out.size)
    clear hb16 HW15 Ht15 
    go_wp2_with fail
    go_ret
    exact ⟨rfl, HW16.out⟩

set_option maxHeartbeats 8000000 in
set_option maxRecDepth 100000 in
theorem second_bad (a : Option Addr) (n cap : Nat) (A : List Mb) (b : Option Addr) (k cb : Nat) (B : List Mb) (x : Int) (u : Bool) (w : World)
    (hg : w.cell? ⟨0, 0, none⟩ = some (.iface 93 (.agg #[.pointer (some ⟨1, 25, none⟩)]))) (hA : MArg w a n A) (hnA : a = none → n = 0 ∧ cap = 0) (hB : MArg w b k B) (hzA : vf A = 0) (hz : vf B ≠ 0) :
    Calls Tryd.prog 4 #[.slice a n cap, .slice b k cb, .int .i64 x, .bool u] w fun e w' => e = .returned (.bool true) ∧ Below w.heap.size w w' := by
  have HGW : Hid (∀ W, Below w.heap.size w W → W.cell? ⟨0, 0, none⟩ = some (.iface 93 (.agg #[.pointer (some ⟨1, 25, none⟩)]))) := fun W hW => (hW.cell (p := ⟨0, 0, none⟩) (lt_of_cell hg)).trans hg
  have HV : Hid (∀ W, Below w.heap.size w W → Calls Tryd.prog 13 #[.slice a n cap] W fun e w' => e = .returned (.int .i64 (vf A : Nat)) ∧ Below W.heap.size W w') := fun W hW => rview_calls a n cap A W (hA.below hW)
  have HVB : Hid (∀ W, Below w.heap.size w W → Calls Tryd.prog 13 #[.slice b k cb] W fun e w' => e = .returned (.int .i64 (vf B : Nat)) ∧ Below W.heap.size W w') := fun W hW => rview_calls b k cb B W (hB.below hW)
  have HCK : Hid (∀ W, Below w.heap.size w W → Calls Tryd.prog 14 #[.slice a n cap] W fun e w' => e = .returned (errv (vf A)) ∧ Below W.heap.size W w') := fun W hW => check_calls a n cap A W (hA.below hW)
  have HMG : Hid (∀ W, Below w.heap.size w W → Calls Tryd.prog 17 #[.slice a n cap, .slice b k cb] W fun e w' => ∃ a' q c', e = .returned (.tuple #[.slice a' q c', errv (mf A B)]) ∧ MArg w' a' q (mgd A B) ∧ q ≤ c' ∧ (a' = none → q = 0 ∧ c' = 0) ∧ Below W.heap.size W w') := fun W hW => merge_calls a n cap A b k cb B W (hA.below hW) hnA (hB.below hW)
  have HNW : Hid (∀ W, Below w.heap.size w W → Calls Tryd.prog 18 #[.slice a n cap, .slice b k cb] W fun e w' => ∃ a' q c', e = .returned (.tuple #[.slice a' q c', errv (mf A B)]) ∧ MArg w' a' q (nwd A B) ∧ q ≤ c' ∧ (a' = none → q = 0 ∧ c' = 0) ∧ Below W.heap.size W w') := fun W hW => newer_calls a n cap A b k cb B W (hA.below hW) (hB.below hW)
  have HAL : Hid (∀ W, Below w.heap.size w W → Calls Tryd.prog 20 #[.slice a n cap] W fun e w' => ∃ a' q c', e = .returned (.tuple #[.slice a' q c', errv (vf A)]) ∧ IArg w' a' q (ald A) ∧ q ≤ c' ∧ Below W.heap.size W w') := fun W hW => alive_calls a n cap A W (hA.below hW)
  have HBU : Hid (∀ W, Below w.heap.size w W → Calls Tryd.prog 22 #[.slice a n cap, .int .i64 x, .bool u] W fun e w' => ∃ a' q c', e = .returned (.tuple #[.slice a' q c', errv (bf A x)]) ∧ MArg w' a' q (bmp A x u) ∧ q ≤ c' ∧ (a' = none → q = 0 ∧ c' = 0) ∧ Below W.heap.size W w') := fun W hW => bump_calls a n cap A x u W (hA.below hW) hnA
  have HMB : Hid (∀ W, Below w.heap.size w W → Calls Tryd.prog 16 #[.slice a n cap, .int .i64 x] W fun e w' => e = .returned (.tuple #[.agg #[.int .i64 (gt A x).n, .int .i64 (gt A x).v, .bool (gt A x).u], .bool (lk A x).isSome]) ∧ Below W.heap.size W w') := fun W hW => rmember_calls a n cap A x W (hA.below hW)
  have HGV : Hid ((gt A x).v = ver A x) := by
    unfold Hid gt ver
    cases lk A x <;> rfl
  have HVD : Hid (0 ≤ ver A x ∧ ver A x ≤ 1000000) := ver_bd (fit_iff.1 hzA) x
  have e4 : ald A = alv A := by unfold ald; rw [if_pos hzA]
  rw [hzA] at HV HCK HAL
  rw [e4, errv_zero] at HAL
  rw [errv_zero] at HCK
  have hn16 : n ≤ 16 := by have := (fit_iff.1 hzA).len; have := hA.2.1; omega
  have HLA := hidden hA.2.1
  have HA := hidden hA
  have HB := hidden hB
  obtain ⟨i3, hi3, hz3, hz4, hz5⟩ := info_parts info3
  clear e4
  have e1 : mf A B = vf B := by unfold mf; rw [if_pos hzA]
  have e2 : mgd A B = [] := by unfold mgd; rw [if_neg (by rw [e1]; exact hz)]
  have e3 : nwd A B = [] := by unfold nwd; rw [if_neg (by rw [e1]; exact hz)]
  rw [e1, e2] at HMG
  rw [e1, e3] at HNW
  have hf100 := vf_le B
  generalize vf B = f at *
  clear e1 e2 e3 hA hB hnA hg
  have hz1 : ((f : Int) == 0) = false := by simp; omega
  have hz2 : (f == 0) = false := by simpa using hz
  have HW0 := hidden (Below.refl w.heap.size w)
  go_enter Tryd.func4, Tryd.ntmps4
  go_wp2_with fail
  refine (HV.out _ HW0.out).mono ?_
  rintro e w1 ⟨rfl, hb1⟩
  have HW1 : Hid (Below w.heap.size w w1) := HW0.out.trans (hb1.mono HW0.out.size)
  clear hb1 HW0  HV
  go_wp2_with fail
  refine (HCK.out _ HW1.out).mono ?_
  rintro e w2 ⟨rfl, hb2⟩
  have HW2 : Hid (Below w.heap.size w w2) := HW1.out.trans (hb2.mono HW1.out.size)
  clear hb2 HW1  HCK
  go_wp2_with fail
  refine (same_zero _).mono ?_
  rintro e w3 ⟨rfl, hb3⟩
  have HW3 : Hid (Below w.heap.size w w3) := HW2.out.trans (hb3.mono HW2.out.size)
  clear hb3 HW2  
  go_wp2_with fail
  refine (HVB.out _ HW3.out).mono ?_
  rintro e w4 ⟨rfl, hb4⟩
  have HW4 : Hid (Below w.heap.size w w4) := HW3.out.trans (hb4.mono HW3.out.size)
  clear hb4 HW3  HVB
  go_wp2_with fail
  refine (HMG.out _ HW4.out).mono ?_
  rintro e w5 ⟨am, qm, cm, rfl, hm, _, _, hb5⟩
  have HW5 : Hid (Below w.heap.size w w5) := HW4.out.trans (hb5.mono HW4.out.size)
  have Hm5 := hidden hm
  clear hb5 HW4  hm HMG
  obtain rfl : 0 = qm := Hm5.out.2.1
  go_wp2_with fail
  refine (same_gen f _ hf100 (HGW.out _ HW5.out)).mono ?_
  rintro e w6 ⟨rfl, hb6⟩
  have HW6 : Hid (Below w.heap.size w w6) := HW5.out.trans (hb6.mono HW5.out.size)
  have Hm6 := hidden (Hm5.out.below hb6)
  clear hb6 HW5 Hm5 
  go_wp2_with fail
  refine (HNW.out _ HW6.out).mono ?_
  rintro e w7 ⟨an, qn, cn, rfl, hn, _, _, hb7⟩
  have HW7 : Hid (Below w.heap.size w w7) := HW6.out.trans (hb7.mono HW6.out.size)
  have Hm7 := hidden (Hm6.out.below hb7)
  have Hn7 := hidden hn
  clear hb7 HW6 Hm6 hn HNW
  obtain rfl : 0 = qn := Hn7.out.2.1
  go_wp2_with fail
  refine (same_gen f _ hf100 (HGW.out _ HW7.out)).mono ?_
  rintro e w8 ⟨rfl, hb8⟩
  have HW8 : Hid (Below w.heap.size w w8) := HW7.out.trans (hb8.mono HW7.out.size)
  have Hm8 := hidden (Hm7.out.below hb8)
  have Hn8 := hidden (Hn7.out.below hb8)
  clear hb8 HW7 Hm7 Hn7 
  go_wp2_with fail
  refine (mbrs_same am none 0 cm 0 [] _ Hm8.out (MArg.nil _ _)).mono ?_
  rintro e w9 ⟨rfl, hb9⟩
  have HW9 : Hid (Below w.heap.size w w9) := HW8.out.trans (hb9.mono HW8.out.size)
  have Hn9 := hidden (Hn8.out.below hb9)
  clear hb9 HW8 Hm8 Hn8 
  go_wp2_with fail
  refine (mbrs_same an none 0 cn 0 [] _ Hn9.out (MArg.nil _ _)).mono ?_
  rintro e w10 ⟨rfl, hb10⟩
  have HW10 : Hid (Below w.heap.size w w10) := HW9.out.trans (hb10.mono HW9.out.size)
  clear hb10 HW9 Hn9 
  have HI10 : Hid (ISt w w10 (.slice none 0 0) (alv (A.take 0))) := ⟨HW10.out, World.ownsRow_nil _ _ _ _⟩
  go_wp2_with fail
  go_loopg [24, 25] n (fun g s y wr => ∃ (j : Nat) (v : Value), j + g = n ∧ v = s ∧ y = .int .i64 (j : Int) ∧ Hid (ISt w wr v (alv (A.take j))))
  case atStart => exact ⟨0, _, by omega, rfl, rfl, HI10⟩
  case round =>
    obtain ⟨j, v, hjg, rfl, rfl, HS⟩ := hrel
    clear HI10 HW10
    by_cases hj : j < n
    · have hjz : (j : Int) < (n : Int) := by omega
      obtain ⟨b1, o1, rfl, hbl, hcs⟩ := (HA.out.below HS.out.1).at (by omega)
      obtain ⟨c0, c1, c2⟩ := hcs j hj
      have ht := take_snoc (L := A) (j := j) (by have := HLA.out; omega)
      obtain ⟨m, hm⟩ : ∃ m, A.getD j zz = m := ⟨_, rfl⟩
      rw [hm] at c0 c1 c2 ht
      clear hm hcs
      obtain ⟨x1, y1, u1⟩ := m
      simp only at c0 c1 c2
      have hal : alv (A.take (j + 1)) = alv (A.take j) ++ (if u1 then [x1] else []) := by
        rw [ht, alv, alv, List.filter_append, List.map_append]
        cases u1 <;> rfl
      have hKl : (alv (A.take j)).length ≤ j := by
        unfold alv
        rw [List.length_map]
        have h1 := List.length_filter_le (·.u) (A.take j)
        rw [List.length_take] at h1
        omega
      clear ht
      generalize alv (A.take j) = K at *
      cases u1 with
      | false =>
        have HAK : Hid (alv (A.take (j + 1)) = K) := by rw [hal]; unfold Hid; simp
        clear hal
        go_wp2_with fail
        go_roundg (n - (j + 1))
        case measure => omega
        case rel => exact ⟨j + 1, v, by omega, rfl, by go_num, by rw [HAK.out]; exact HS⟩
      | true =>
        have HAK : Hid (alv (A.take (j + 1)) = K ++ [x1]) := by rw [hal]; unfold Hid; simp
        clear hal
        have HS1 : Hid (ISt w (wr.alloc (.cells #[.int .i64 x1] 3)) v K) := HS.out.alloc _
        have HN1 := hidden (lit1 wr (.int .i64 x1) 3)
        go_wp2_with (at_builtin; refine wpList_append_own _ rfl _ _ 54 rfl w.heap.size 3 i3 _ 1 8 Tryd.underlying54 hi3 hz3 hz4 hz5 rfl (by decide) _ K.length (ic K) rfl HS1.out.2 ⟨wr.heap.size, 0, none⟩ 1 1 [.int .i64 x1] rfl rfl HN1.out ?one ?b1 ?b2 ?b3 ?next)
        case one => simp [Value.oneCell']
        case b1 => unfold maxLen; omega
        case b2 => omega
        case b3 => have := HS1.out.1.size; simpa using this
        case next =>
        intro v1 w' hown hgrow _
        have HS2 : Hid (ISt w w' v1 (K ++ [x1])) := HS1.out.more x1 hown hgrow
        clear hown hgrow
        go_wp2_with fail
        go_roundg (n - (j + 1))
        case measure => omega
        case rel => exact ⟨j + 1, v1, by omega, rfl, by go_num, by rw [HAK.out]; exact HS2⟩
    · have hjz : ¬ (j : Int) < (n : Int) := by omega
      have ej : j = n := by omega
      subst ej
      have hs := HS.out
      rw [← HLA.out, List.take_length] at hs
      have hR : (alv A).length ≤ 9223372036854775807 := by
        unfold alv
        rw [List.length_map]
        have h1 := List.length_filter_le (·.u) A
        have h2 := HLA.out
        omega
      obtain ⟨av, cv, rfl, hI, _⟩ := own_ints hs.2 hR
      have HV11 := hidden hI
      have HW11 := hidden hs.1
      obtain ⟨w11, hwr⟩ : ∃ z, z = wr := ⟨_, rfl⟩
      rw [← hwr] at HV11 HW11
      subst hwr
      clear hI hs HS hR
      go_wp2_with fail
      refine (HAL.out _ HW11.out).mono ?_
      rintro e w12 ⟨al, ql, cl, rfl, hl, _, hb12⟩
      have HW12 : Hid (Below w.heap.size w w12) := HW11.out.trans (hb12.mono HW11.out.size)
      have HV12 := hidden (HV11.out.below hb12)
      have Hl12 := hidden hl
      clear hb12 HW11 HV11 hl HAL
      obtain rfl : (alv A).length = ql := Hl12.out.2.1
      go_wp2_with fail
      refine (same_zero _).mono ?_
      rintro e w13 ⟨rfl, hb13⟩
      have HW13 : Hid (Below w.heap.size w w13) := HW12.out.trans (hb13.mono HW12.out.size)
      have HV13 := hidden (HV12.out.below hb13)
      have Hl13 := hidden (Hl12.out.below hb13)
      clear hb13 HW12 HV12 Hl12 
      go_wp2_with fail
      refine (ints_same al av (alv A).length cl cv (alv A) _ Hl13.out HV13.out).mono ?_
      rintro e w14 ⟨rfl, hb14⟩
      have HW14 : Hid (Below w.heap.size w w14) := HW13.out.trans (hb14.mono HW13.out.size)
      clear hb14 HW13 HV13 Hl13 
      by_cases h1 : x < 0
      · have d1 : decide (x < 0) = true := by simpa using h1
        have eb : bf A x = 1 := by unfold bf; rw [if_pos hzA, if_neg (by omega)]
        have ec : bmp A x u = [] := by unfold bmp; rw [if_neg (by rw [eb]; decide)]
        rw [eb, ec] at HBU
        clear eb ec
        go_wp2_with fail
        refine (HBU.out _ HW14.out).mono ?_
        rintro e w15 ⟨at1, qt, ct, rfl, ht, _, _, hb15⟩
        have HW15 : Hid (Below w.heap.size w w15) := HW14.out.trans (hb15.mono HW14.out.size)
        have Ht15 := hidden ht
        clear hb15 HW14  ht HBU
        obtain rfl : 0 = qt := Ht15.out.2.1
        go_wp2_with fail
        refine (same_gen 1 _ (by decide) (HGW.out _ HW15.out)).mono ?_
        rintro e w16 ⟨rfl, hb16⟩
        have HW16 : Hid (Below w.heap.size w w16) := HW15.out.trans (hb16.mono HW15.out.size)
        have Ht16 := hidden (Ht15.out.below hb16)
        clear hb16 HW15 Ht15 
        go_wp2_with fail
        refine (mbrs_same at1 none 0 ct 0 [] _ Ht16.out (MArg.nil _ _)).mono ?_
        rintro e w17 ⟨rfl, hb17⟩
        have HW17 : Hid (Below w.heap.size w w17) := HW16.out.trans (hb17.mono HW16.out.size)
        clear hb17 HW16 Ht16 
        go_wp2_with fail
        go_ret
        exact ⟨rfl, HW17.out⟩
      · have d1 : decide (x < 0) = false := by simpa using h1
        by_cases h2 : 15 < x
        · have d2 : decide (15 < x) = true := by simpa using h2
          have eb : bf A x = 1 := by unfold bf; rw [if_pos hzA, if_neg (by omega)]
          have ec : bmp A x u = [] := by unfold bmp; rw [if_neg (by rw [eb]; decide)]
          rw [eb, ec] at HBU
          clear eb ec
          go_wp2_with fail
          refine (HBU.out _ HW14.out).mono ?_
          rintro e w15 ⟨at1, qt, ct, rfl, ht, _, _, hb15⟩
          have HW15 : Hid (Below w.heap.size w w15) := HW14.out.trans (hb15.mono HW14.out.size)
          have Ht15 := hidden ht
          clear hb15 HW14  ht HBU
          obtain rfl : 0 = qt := Ht15.out.2.1
          go_wp2_with fail
          refine (same_gen 1 _ (by decide) (HGW.out _ HW15.out)).mono ?_
          rintro e w16 ⟨rfl, hb16⟩
          have HW16 : Hid (Below w.heap.size w w16) := HW15.out.trans (hb16.mono HW15.out.size)
          have Ht16 := hidden (Ht15.out.below hb16)
          clear hb16 HW15 Ht15 
          go_wp2_with fail
          refine (mbrs_same at1 none 0 ct 0 [] _ Ht16.out (MArg.nil _ _)).mono ?_
          rintro e w17 ⟨rfl, hb17⟩
          have HW17 : Hid (Below w.heap.size w w17) := HW16.out.trans (hb17.mono HW16.out.size)
          clear hb17 HW16 Ht16 
          go_wp2_with fail
          go_ret
          exact ⟨rfl, HW17.out⟩
        · have d2 : decide (15 < x) = false := by simpa using h2
          by_cases h3 : ver A x = 1000000
          · have eb : bf A x = 4 := by unfold bf; rw [if_pos hzA, if_pos (by omega), if_pos h3]
            have ec : bmp A x u = [] := by unfold bmp; rw [if_neg (by rw [eb]; decide)]
            rw [eb, ec] at HBU
            clear eb ec
            have H3 := hidden h3
            clear h3
            have CM := HMB.out
            go_wp2_with fail
            refine (HMB.out _ HW14.out).mono ?_
            rintro e w15 ⟨rfl, hb15⟩
            have HX15 : Hid (Below w.heap.size w (w15.alloc (.cells #[.int .i64 (gt A x).n, .int .i64 (gt A x).v, .bool (gt A x).u] 48)) ∧ MBox (w15.alloc (.cells #[.int .i64 (gt A x).n, .int .i64 (gt A x).v, .bool (gt A x).u] 48)) w15.heap.size (gt A x)) := ⟨below_alloc (HW14.out.trans (hb15.mono HW14.out.size)) _, MBox.new w15 _⟩
            have HLE : Hid (w.heap.size ≤ w15.heap.size) := Nat.le_trans HW14.out.size hb15.size
            clear hb15 HW14 CM
            obtain ⟨wy, hwy⟩ : ∃ wy, w15.alloc (.cells #[.int .i64 (gt A x).n, .int .i64 (gt A x).v, .bool (gt A x).u] 48) = wy := ⟨_, rfl⟩
            have HWY := hidden hwy
            rw [hwy] at HX15
            clear hwy
            obtain ⟨c0, c1, c2⟩ := HX15.out.2.cells
            have f0 := HX15.out.2.free 0
            have f1 := HX15.out.2.free 1
            have f2 := HX15.out.2.free 2
            rw [HGV.out] at c1
            have hvb := HVD.out
            generalize ver A x = y at *
            have HX2 : Hid (Below w.heap.size w (((wy.setCell ⟨w15.heap.size, 0, none⟩ (.int .i64 x)).setCell ⟨w15.heap.size, 1, none⟩ (.int .i64 (y + 1))).setCell ⟨w15.heap.size, 2, none⟩ (.bool u)) ∧ MBox (((wy.setCell ⟨w15.heap.size, 0, none⟩ (.int .i64 x)).setCell ⟨w15.heap.size, 1, none⟩ (.int .i64 (y + 1))).setCell ⟨w15.heap.size, 2, none⟩ (.bool u)) w15.heap.size ⟨x, y + 1, u⟩) := ⟨below_set3 HX15.out.1 HLE.out _ _ _ _ _ _, HX15.out.2.put3 ⟨x, y + 1, u⟩⟩
            go_upto_region 35 with fail
            rw [HWY.out]
            go_upto_region 38 with fail
            obtain ⟨wz, hwz⟩ : ∃ wz, ((wy.setCell ⟨w15.heap.size, 0, none⟩ (.int .i64 x)).setCell ⟨w15.heap.size, 1, none⟩ (.int .i64 (y + 1))).setCell ⟨w15.heap.size, 2, none⟩ (.bool u) = wz := ⟨_, rfl⟩
            rw [hwz] at HX2 ⊢
            clear hwz HX15 c0 c1 c2 f0 f1 f2 HWY
            obtain ⟨c0, c1, c2⟩ := HX2.out.2.cells
            simp only at c0 c1 c2
            have d3 : decide (1000000 < y + 1) = true := by have := H3.out; simp; omega
            have HW16 : Hid (Below w.heap.size w wz) := HX2.out.1
            clear HX2
            go_wp2_with fail
            refine (HBU.out _ HW16.out).mono ?_
            rintro e w17 ⟨at1, qt, ct, rfl, ht, _, _, hb17⟩
            have HW17 : Hid (Below w.heap.size w w17) := HW16.out.trans (hb17.mono HW16.out.size)
            have Ht17 := hidden ht
            clear hb17 HW16  ht HBU
            obtain rfl : 0 = qt := Ht17.out.2.1
            go_wp2_with fail
            refine (same_gen 4 _ (by decide) (HGW.out _ HW17.out)).mono ?_
            rintro e w18 ⟨rfl, hb18⟩
            have HW18 : Hid (Below w.heap.size w w18) := HW17.out.trans (hb18.mono HW17.out.size)
            have Ht18 := hidden (Ht17.out.below hb18)
            clear hb18 HW17 Ht17 
            go_wp2_with fail
            refine (mbrs_same at1 none 0 ct 0 [] _ Ht18.out (MArg.nil _ _)).mono ?_
            rintro e w19 ⟨rfl, hb19⟩
            have HW19 : Hid (Below w.heap.size w w19) := HW18.out.trans (hb19.mono HW18.out.size)
            clear hb19 HW18 Ht18 
            go_wp2_with fail
            go_ret
            exact ⟨rfl, HW19.out⟩
          · have eb : bf A x = 0 := by unfold bf; rw [if_pos hzA, if_pos (by omega), if_neg h3]
            have ec : bmp A x u = VM.put A (bm A x u) := by unfold bmp; rw [if_pos eb]
            rw [eb, ec, errv_zero] at HBU
            have hbm : bm A x u = ⟨x, ver A x + 1, u⟩ := by unfold bm; rw [Int.add_comm]
            have er : rmn A [⟨x, ver A x + 1, u⟩] 16 = VM.put A (bm A x u) := by
              rw [← hbm, rmn_all (fit_iff.1 hzA) (show Fit [bm A x u] from Fit.nil.put (bm_ok u eb)), mrg_one u eb]
            have hrl : (VM.put A (bm A x u)).length ≤ 16 := (put_fit u eb).len
            generalize VM.put A (bm A x u) = R at *
            clear eb ec hbm
            have CM := HMB.out
            go_wp2_with fail
            refine (HMB.out _ HW14.out).mono ?_
            rintro e w15 ⟨rfl, hb15⟩
            have HX15 : Hid (Below w.heap.size w (w15.alloc (.cells #[.int .i64 (gt A x).n, .int .i64 (gt A x).v, .bool (gt A x).u] 48)) ∧ MBox (w15.alloc (.cells #[.int .i64 (gt A x).n, .int .i64 (gt A x).v, .bool (gt A x).u] 48)) w15.heap.size (gt A x)) := ⟨below_alloc (HW14.out.trans (hb15.mono HW14.out.size)) _, MBox.new w15 _⟩
            have HLE : Hid (w.heap.size ≤ w15.heap.size) := Nat.le_trans HW14.out.size hb15.size
            clear hb15 HW14 CM
            obtain ⟨wy, hwy⟩ : ∃ wy, w15.alloc (.cells #[.int .i64 (gt A x).n, .int .i64 (gt A x).v, .bool (gt A x).u] 48) = wy := ⟨_, rfl⟩
            have HWY := hidden hwy
            rw [hwy] at HX15
            clear hwy
            obtain ⟨c0, c1, c2⟩ := HX15.out.2.cells
            have f0 := HX15.out.2.free 0
            have f1 := HX15.out.2.free 1
            have f2 := HX15.out.2.free 2
            rw [HGV.out] at c1
            have hvb := HVD.out
            generalize ver A x = y at *
            have HX2 : Hid (Below w.heap.size w (((wy.setCell ⟨w15.heap.size, 0, none⟩ (.int .i64 x)).setCell ⟨w15.heap.size, 1, none⟩ (.int .i64 (y + 1))).setCell ⟨w15.heap.size, 2, none⟩ (.bool u)) ∧ MBox (((wy.setCell ⟨w15.heap.size, 0, none⟩ (.int .i64 x)).setCell ⟨w15.heap.size, 1, none⟩ (.int .i64 (y + 1))).setCell ⟨w15.heap.size, 2, none⟩ (.bool u)) w15.heap.size ⟨x, y + 1, u⟩) := ⟨below_set3 HX15.out.1 HLE.out _ _ _ _ _ _, HX15.out.2.put3 ⟨x, y + 1, u⟩⟩
            go_upto_region 35 with fail
            rw [HWY.out]
            go_upto_region 38 with fail
            obtain ⟨wz, hwz⟩ : ∃ wz, ((wy.setCell ⟨w15.heap.size, 0, none⟩ (.int .i64 x)).setCell ⟨w15.heap.size, 1, none⟩ (.int .i64 (y + 1))).setCell ⟨w15.heap.size, 2, none⟩ (.bool u) = wz := ⟨_, rfl⟩
            rw [hwz] at HX2 ⊢
            clear hwz HX15 c0 c1 c2 f0 f1 f2 HWY
            obtain ⟨c0, c1, c2⟩ := HX2.out.2.cells
            simp only at c0 c1 c2
            have d3 : decide (1000000 < y + 1) = false := by simp; omega
            have HXA : Hid (Below w.heap.size w (wz.alloc (.cells #[.int .i64 x, .int .i64 (y + 1), .bool u] 48)) ∧ MArg (wz.alloc (.cells #[.int .i64 x, .int .i64 (y + 1), .bool u] 48)) (some ⟨wz.heap.size, 0, none⟩) 1 [⟨x, y + 1, u⟩]) := by
              refine ⟨below_alloc HX2.out.1 _, fun j hj => ⟨wz.heap.size, 0, rfl, ?_⟩, rfl, by omega⟩
              obtain rfl : j = 0 := by simpa using hj
              exact (MBox.new wz ⟨x, y + 1, u⟩).cells
            have HRX : Hid (Calls Tryd.prog 15 #[.slice a j cap, .slice (some ⟨wz.heap.size, 0, none⟩) 1 1] (wz.alloc (.cells #[.int .i64 x, .int .i64 (y + 1), .bool u] 48)) fun e w' => ∃ a' c', e = .returned (.slice a' R.length c') ∧ MArg w' a' R.length R ∧ R.length ≤ c' ∧ (a' = none → R.length = 0 ∧ c' = 0) ∧ Below (wz.alloc (.cells #[.int .i64 x, .int .i64 (y + 1), .bool u] 48)).heap.size (wz.alloc (.cells #[.int .i64 x, .int .i64 (y + 1), .bool u] 48)) w') := by
              have := rmerge_calls a j cap A (some ⟨wz.heap.size, 0, none⟩) 1 1 [⟨x, y + 1, u⟩] _ (HA.out.below HXA.out.1) HXA.out.2
              rw [er] at this
              exact this
            clear er HX2
            go_wp2_with fail
            refine HRX.out.mono ?_
            rintro e w16 ⟨ax, cx, rfl, hx, _, _, hb⟩
            have HW16 : Hid (Below w.heap.size w w16) := HXA.out.1.trans (hb.mono HXA.out.1.size)
            have Hx16 := hidden hx
            clear hb hx HXA HRX
            go_wp2_with fail
            refine (HBU.out _ HW16.out).mono ?_
            rintro e w17 ⟨at1, qt, ct, rfl, ht, _, _, hb17⟩
            have HW17 : Hid (Below w.heap.size w w17) := HW16.out.trans (hb17.mono HW16.out.size)
            have Hx17 := hidden (Hx16.out.below hb17)
            have Ht17 := hidden ht
            clear hb17 HW16 Hx16 ht HBU
            obtain rfl : R.length = qt := Ht17.out.2.1
            go_wp2_with fail
            refine (same_zero _).mono ?_
            rintro e w18 ⟨rfl, hb18⟩
            have HW18 : Hid (Below w.heap.size w w18) := HW17.out.trans (hb18.mono HW17.out.size)
            have Hx18 := hidden (Hx17.out.below hb18)
            have Ht18 := hidden (Ht17.out.below hb18)
            clear hb18 HW17 Hx17 Ht17 
            go_wp2_with fail
            refine (mbrs_same at1 ax R.length ct cx R _ Ht18.out Hx18.out).mono ?_
            rintro e w19 ⟨rfl, hb19⟩
            have HW19 : Hid (Below w.heap.size w w19) := HW18.out.trans (hb19.mono HW18.out.size)
            clear hb19 HW18 Hx18 Ht18 
            go_wp2_with fail
            go_ret
            exact ⟨rfl, HW19.out⟩

set_option maxHeartbeats 8000000 in
set_option maxRecDepth 100000 in
theorem both_good (a : Option Addr) (n cap : Nat) (A : List Mb) (b : Option Addr) (k cb : Nat) (B : List Mb) (x : Int) (u : Bool) (w : World)
    (hg : w.cell? ⟨0, 0, none⟩ = some (.iface 93 (.agg #[.pointer (some ⟨1, 25, none⟩)]))) (hA : MArg w a n A) (hnA : a = none → n = 0 ∧ cap = 0) (hB : MArg w b k B) (hzA : vf A = 0) (hzB : vf B = 0) :
    Calls Tryd.prog 4 #[.slice a n cap, .slice b k cb, .int .i64 x, .bool u] w fun e w' => e = .returned (.bool true) ∧ Below w.heap.size w w' := by
  have HGW : Hid (∀ W, Below w.heap.size w W → W.cell? ⟨0, 0, none⟩ = some (.iface 93 (.agg #[.pointer (some ⟨1, 25, none⟩)]))) := fun W hW => (hW.cell (p := ⟨0, 0, none⟩) (lt_of_cell hg)).trans hg
  have HV : Hid (∀ W, Below w.heap.size w W → Calls Tryd.prog 13 #[.slice a n cap] W fun e w' => e = .returned (.int .i64 (vf A : Nat)) ∧ Below W.heap.size W w') := fun W hW => rview_calls a n cap A W (hA.below hW)
  have HVB : Hid (∀ W, Below w.heap.size w W → Calls Tryd.prog 13 #[.slice b k cb] W fun e w' => e = .returned (.int .i64 (vf B : Nat)) ∧ Below W.heap.size W w') := fun W hW => rview_calls b k cb B W (hB.below hW)
  have HCK : Hid (∀ W, Below w.heap.size w W → Calls Tryd.prog 14 #[.slice a n cap] W fun e w' => e = .returned (errv (vf A)) ∧ Below W.heap.size W w') := fun W hW => check_calls a n cap A W (hA.below hW)
  have HMG : Hid (∀ W, Below w.heap.size w W → Calls Tryd.prog 17 #[.slice a n cap, .slice b k cb] W fun e w' => ∃ a' q c', e = .returned (.tuple #[.slice a' q c', errv (mf A B)]) ∧ MArg w' a' q (mgd A B) ∧ q ≤ c' ∧ (a' = none → q = 0 ∧ c' = 0) ∧ Below W.heap.size W w') := fun W hW => merge_calls a n cap A b k cb B W (hA.below hW) hnA (hB.below hW)
  have HNW : Hid (∀ W, Below w.heap.size w W → Calls Tryd.prog 18 #[.slice a n cap, .slice b k cb] W fun e w' => ∃ a' q c', e = .returned (.tuple #[.slice a' q c', errv (mf A B)]) ∧ MArg w' a' q (nwd A B) ∧ q ≤ c' ∧ (a' = none → q = 0 ∧ c' = 0) ∧ Below W.heap.size W w') := fun W hW => newer_calls a n cap A b k cb B W (hA.below hW) (hB.below hW)
  have HAL : Hid (∀ W, Below w.heap.size w W → Calls Tryd.prog 20 #[.slice a n cap] W fun e w' => ∃ a' q c', e = .returned (.tuple #[.slice a' q c', errv (vf A)]) ∧ IArg w' a' q (ald A) ∧ q ≤ c' ∧ Below W.heap.size W w') := fun W hW => alive_calls a n cap A W (hA.below hW)
  have HBU : Hid (∀ W, Below w.heap.size w W → Calls Tryd.prog 22 #[.slice a n cap, .int .i64 x, .bool u] W fun e w' => ∃ a' q c', e = .returned (.tuple #[.slice a' q c', errv (bf A x)]) ∧ MArg w' a' q (bmp A x u) ∧ q ≤ c' ∧ (a' = none → q = 0 ∧ c' = 0) ∧ Below W.heap.size W w') := fun W hW => bump_calls a n cap A x u W (hA.below hW) hnA
  have HMB : Hid (∀ W, Below w.heap.size w W → Calls Tryd.prog 16 #[.slice a n cap, .int .i64 x] W fun e w' => e = .returned (.tuple #[.agg #[.int .i64 (gt A x).n, .int .i64 (gt A x).v, .bool (gt A x).u], .bool (lk A x).isSome]) ∧ Below W.heap.size W w') := fun W hW => rmember_calls a n cap A x W (hA.below hW)
  have HGV : Hid ((gt A x).v = ver A x) := by
    unfold Hid gt ver
    cases lk A x <;> rfl
  have HVD : Hid (0 ≤ ver A x ∧ ver A x ≤ 1000000) := ver_bd (fit_iff.1 hzA) x
  have e4 : ald A = alv A := by unfold ald; rw [if_pos hzA]
  rw [hzA] at HV HCK HAL
  rw [e4, errv_zero] at HAL
  rw [errv_zero] at HCK
  have hn16 : n ≤ 16 := by have := (fit_iff.1 hzA).len; have := hA.2.1; omega
  have HLA := hidden hA.2.1
  have HA := hidden hA
  have HB := hidden hB
  obtain ⟨i3, hi3, hz3, hz4, hz5⟩ := info_parts info3
  clear e4
  have fA := fit_iff.1 hzA
  have fB := fit_iff.1 hzB
  have e1 : mf A B = 0 := mf_fit.2 ⟨fA, fB⟩
  have e2 : mgd A B = mrg A B := by unfold mgd; rw [if_pos e1]
  have e3 : nwd A B = newer A B := by unfold nwd; rw [if_pos e1]
  have HNZ := nz_newer fA fB
  have HRM : ∀ W, Below w.heap.size w W → Calls Tryd.prog 15 #[.slice a n cap, .slice b k cb] W fun e w' => ∃ a' c', e = .returned (.slice a' (rmn A B 16).length c') ∧ MArg w' a' (rmn A B 16).length (rmn A B 16) ∧ (rmn A B 16).length ≤ c' ∧ (a' = none → (rmn A B 16).length = 0 ∧ c' = 0) ∧ Below W.heap.size W w' := fun W hW => rmerge_calls a n cap A b k cb B W (hA.below hW) (hB.below hW)
  rw [rmn_all fA fB] at HRM
  replace HRM := hidden HRM
  have HMA : Hid (∀ W (z : Int), Below w.heap.size w W → Calls Tryd.prog 16 #[.slice a n cap, .int .i64 z] W fun e w' => e = .returned (.tuple #[.agg #[.int .i64 (gt A z).n, .int .i64 (gt A z).v, .bool (gt A z).u], .bool (lk A z).isSome]) ∧ Below W.heap.size W w') := fun W z hW => rmember_calls a n cap A z W (hA.below hW)
  have hS16 : (mrg A B).length ≤ 16 := (fit_mrg fA fB).len
  rw [e1, e2, errv_zero] at HMG
  rw [e1, e3, errv_zero, ← HNZ] at HNW
  rw [hzB] at HVB
  generalize mrg A B = S at *
  clear e1 e2 e3 hA hB hnA hg HNZ fA fB
  obtain ⟨im, him, hzm, hzn, hzo⟩ := info_parts infoMB
  have HW0 := hidden (Below.refl w.heap.size w)
  go_enter Tryd.func4, Tryd.ntmps4
  go_wp2_with fail
  refine (HV.out _ HW0.out).mono ?_
  rintro e w1 ⟨rfl, hb1⟩
  have HW1 : Hid (Below w.heap.size w w1) := HW0.out.trans (hb1.mono HW0.out.size)
  clear hb1 HW0  HV
  go_wp2_with fail
  refine (HCK.out _ HW1.out).mono ?_
  rintro e w2 ⟨rfl, hb2⟩
  have HW2 : Hid (Below w.heap.size w w2) := HW1.out.trans (hb2.mono HW1.out.size)
  clear hb2 HW1  HCK
  go_wp2_with fail
  refine (same_zero _).mono ?_
  rintro e w3 ⟨rfl, hb3⟩
  have HW3 : Hid (Below w.heap.size w w3) := HW2.out.trans (hb3.mono HW2.out.size)
  clear hb3 HW2  
  go_wp2_with fail
  refine (HVB.out _ HW3.out).mono ?_
  rintro e w4 ⟨rfl, hb4⟩
  have HW4 : Hid (Below w.heap.size w w4) := HW3.out.trans (hb4.mono HW3.out.size)
  clear hb4 HW3  HVB
  go_wp2_with fail
  refine (HRM.out _ HW4.out).mono ?_
  rintro e w5 ⟨aw, cw, rfl, hw, _, _, hb5⟩
  have HW5 : Hid (Below w.heap.size w w5) := HW4.out.trans (hb5.mono HW4.out.size)
  have Hw5 := hidden hw
  clear hb5 HW4  hw HRM
  have HS0 : Hid (MSt w5 w5 (.slice none 0 0) ((S.take 0).filter (nz A))) := ⟨Below.refl _ _, World.ownsRow_nil _ _ _ _⟩
  go_wp2_with fail
  go_loopg [13, 14] S.length (fun g s y wr => ∃ (j : Nat) (v : Value), j + g = S.length ∧ v = s ∧ y = .int .i64 (j : Int) ∧ Hid (MSt w5 wr v ((S.take j).filter (nz A))))
  case atStart => exact ⟨0, _, by omega, rfl, rfl, HS0⟩
  case round =>
    obtain ⟨j, v, hjg, rfl, rfl, HS⟩ := hrel
    clear HS0
    by_cases hj : j < S.length
    · have hjz : (j : Int) < (S.length : Int) := by omega
      obtain ⟨b1, o1, rfl, hbl, hcs⟩ := (Hw5.out.below HS.out.1).at (by omega)
      obtain ⟨c0, c1, c2⟩ := hcs j hj
      have ht := take_snoc (L := S) (j := j) (by omega)
      obtain ⟨m, hm⟩ : ∃ m, S.getD j zz = m := ⟨_, rfl⟩
      rw [hm] at c0 c1 c2 ht
      clear hcs
      have HSM := hidden hm
      clear hm
      have hal : (S.take (j + 1)).filter (nz A) = (S.take j).filter (nz A) ++ (if nz A m then [m] else []) := by
        rw [ht, List.filter_append]
        cases e : nz A m <;> simp [List.filter, e]
      have hKl : ((S.take j).filter (nz A)).length ≤ j := by
        have h1 := List.length_filter_le (nz A) (S.take j)
        rw [List.length_take] at h1
        omega
      clear ht
      generalize (S.take j).filter (nz A) = K at *
      obtain ⟨t, ht⟩ : ∃ t, nz A m = t := ⟨_, rfl⟩
      rw [ht] at hal
      have HT := hidden ht
      have HAK := hidden hal
      clear ht hal
      have HMM := hidden (fun W hW => HMA.out W m.n hW)
      obtain ⟨ol, hol⟩ : ∃ ol, lk A m.n = ol := ⟨_, rfl⟩
      have hgt : gt A m.n = ol.getD zz := by unfold gt; rw [hol]
      rw [hol, hgt] at HMM
      have HOL := hidden hol
      clear hol hgt
      obtain ⟨x1, y1, u1⟩ := m
      simp only at c0 c1 c2 HMM HOL
      obtain ⟨q, hq⟩ : ∃ q, ol.getD zz = q := ⟨_, rfl⟩
      rw [hq] at HMM
      obtain ⟨x2, y2, u2⟩ := q
      simp only at HMM
      go_wp2_with fail
      refine (HMM.out _ (HW5.out.trans (HS.out.1.mono HW5.out.size))).mono ?_
      rintro e w7 ⟨rfl, hb7⟩
      have HS7 : Hid (MSt w5 (w7.alloc (.cells #[.int .i64 x2, .int .i64 y2, .bool u2] 48)) v K ∧ MBox (w7.alloc (.cells #[.int .i64 x2, .int .i64 y2, .bool u2] 48)) w7.heap.size ⟨x2, y2, u2⟩) := ⟨(HS.out.below hb7).alloc _, MBox.new w7 ⟨x2, y2, u2⟩⟩
      clear hb7 HMM HS c0 c1 c2
      obtain ⟨w8, hw8⟩ : ∃ w8, w7.alloc (.cells #[.int .i64 x2, .int .i64 y2, .bool u2] 48) = w8 := ⟨_, rfl⟩
      have HW8 := hidden hw8
      rw [hw8] at HS7
      clear hw8
      obtain ⟨e0, e1, e2⟩ := HS7.out.2.cells
      obtain ⟨b1', o1', he, _, hcs⟩ := (Hw5.out.below HS7.out.1.1).at (by omega)
      simp only [Option.some.injEq, Addr.mk.injEq, and_true] at he
      obtain ⟨rfl, rfl⟩ := he
      obtain ⟨c0, c1, c2⟩ := hcs j hj
      rw [HSM.out] at c0 c1 c2
      simp only at c0 c1 c2 e0 e1 e2
      clear hcs
      go_upto_region 13 with fail
      rw [HW8.out]
      clear HW8
      go_cut [76] from 67 to 76 (fun s wx => s = .bool t ∧ Hid (MSt w5 wx v K))
      case first =>
        cases ol with
        | none =>
          have HTt : Hid (true = t) := by
            rw [← HT.out]
            exact (nz_none (m := ⟨x1, y1, u1⟩) HOL.out).symm
          clear HT HOL hq
          go_quiet (fail)
          go_wp2_with fail
          go_meet
          exact ⟨congrArg Value.bool HTt.out, hidden (HS7.out.1.below (below_draws _ _))⟩
        | some z =>
          have ez : z = ⟨x2, y2, u2⟩ := hq
          have HTt : Hid (mne ⟨x2, y2, u2⟩ ⟨x1, y1, u1⟩ = t) := by
            rw [← HT.out]
            exact (nz_some (m := ⟨x1, y1, u1⟩) (by rw [HOL.out, ez])).symm
          have hcmp : ∀ w, (binOp .neq 48 (.agg #[.int .i64 x2, .int .i64 y2, .bool u2]) (.agg #[.int .i64 x1, .int .i64 y1, .bool u1])).run Tryd.prog w = .ok (.bool t) w := fun w => by rw [mcmp, HTt.out]
          have hgrd := mgrd
          clear HT HOL hq ez HTt
          go_quiet (fail)
          go_wp2_with fail
          go_meet
          exact ⟨rfl, hidden (HS7.out.1.below (below_draws _ _))⟩
      case rest =>
      obtain ⟨rfl, HSc⟩ := hcut
      clear HT HOL hq HS7 c0 c1 c2 e0 e1 e2
      cases t with
      | false =>
        have HAL' : Hid ((S.take (j + 1)).filter (nz A) = K) := by rw [HAK.out]; unfold Hid; simp
        clear HAK
        go_wp2_with fail
        go_roundg (S.length - (j + 1))
        case measure => omega
        case rel => exact ⟨j + 1, v, by omega, rfl, by go_num, by rw [HAL'.out]; exact HSc⟩
      | true =>
        have HAL' : Hid ((S.take (j + 1)).filter (nz A) = K ++ [⟨x1, y1, u1⟩]) := by rw [HAK.out]; unfold Hid; simp
        clear HAK
        obtain ⟨b1', o1', he, _, hcs⟩ := (Hw5.out.below HSc.out.1).at (by omega)
        simp only [Option.some.injEq, Addr.mk.injEq, and_true] at he
        obtain ⟨rfl, rfl⟩ := he
        obtain ⟨c0, c1, c2⟩ := hcs j hj
        rw [HSM.out] at c0 c1 c2
        simp only at c0 c1 c2
        clear hcs
        have HS5 : Hid (MSt w5 (wc.alloc (.cells #[.int .i64 x1, .int .i64 y1, .bool u1] 48)) v K) := HSc.out.alloc _
        have HN5 := hidden (MBox.new wc ⟨x1, y1, u1⟩).news
        have hm1 : (mc [⟨x1, y1, u1⟩]).length = 1 * 3 := rfl
        go_wp2_with (at_builtin; refine wpList_append_own _ rfl _ _ 43 rfl w5.heap.size 48 im _ 3 24 Tryd.underlying43 him hzm hzn hzo rfl (by decide) _ K.length (mc K) rfl HS5.out.2 ⟨wc.heap.size, 0, none⟩ 1 1 (mc [⟨x1, y1, u1⟩]) rfl hm1 HN5.out (mc_cell _) ?b1 ?b2 ?b3 ?next)
        case b1 => unfold maxLen; omega
        case b2 => omega
        case b3 => have := HS5.out.1.size; simpa using this
        case next =>
        intro v1 w' hown hgrow _
        have HS6 : Hid (MSt w5 w' v1 (K ++ [⟨x1, y1, u1⟩])) := HS5.out.more ⟨x1, y1, u1⟩ hown hgrow
        clear hown hgrow
        go_wp2_with fail
        go_roundg (S.length - (j + 1))
        case measure => omega
        case rel => exact ⟨j + 1, v1, by omega, rfl, by go_num, by rw [HAL'.out]; exact HS6⟩
    · have hjz : ¬ (j : Int) < (S.length : Int) := by omega
      have ej : j = S.length := by omega
      subst ej
      have hs := HS.out
      rw [List.take_length] at hs
      have hN16 : (S.filter (nz A)).length ≤ 16 := Nat.le_trans (List.length_filter_le _ _) hS16
      generalize S.filter (nz A) = N at *
      obtain ⟨ay, cy, rfl, hI, _⟩ := own_mbs hs.2 (by omega)
      have Hy6 := hidden hI
      have HW6 : Hid (Below w.heap.size w wr) := HW5.out.trans (hs.1.mono HW5.out.size)
      have Hw6 := hidden (Hw5.out.below hs.1)
      obtain ⟨w6, hwr⟩ : ∃ z, z = wr := ⟨_, rfl⟩
      rw [← hwr] at Hy6 HW6 Hw6
      subst hwr
      clear hI hs HS Hw5 HW5
      go_wp2_with fail
      refine (HMG.out _ HW6.out).mono ?_
      rintro e w7 ⟨am, qm, cm, rfl, hm, _, _, hb7⟩
      have HW7 : Hid (Below w.heap.size w w7) := HW6.out.trans (hb7.mono HW6.out.size)
      have Hw7 := hidden (Hw6.out.below hb7)
      have Hy7 := hidden (Hy6.out.below hb7)
      have Hm7 := hidden hm
      clear hb7 HW6 Hw6 Hy6 hm HMG
      obtain rfl : S.length = qm := Hm7.out.2.1
      go_wp2_with fail
      refine (same_zero _).mono ?_
      rintro e w8 ⟨rfl, hb8⟩
      have HW8 : Hid (Below w.heap.size w w8) := HW7.out.trans (hb8.mono HW7.out.size)
      have Hw8 := hidden (Hw7.out.below hb8)
      have Hy8 := hidden (Hy7.out.below hb8)
      have Hm8 := hidden (Hm7.out.below hb8)
      clear hb8 HW7 Hw7 Hy7 Hm7 
      go_wp2_with fail
      refine (HNW.out _ HW8.out).mono ?_
      rintro e w9 ⟨an, qn, cn, rfl, hn, _, _, hb9⟩
      have HW9 : Hid (Below w.heap.size w w9) := HW8.out.trans (hb9.mono HW8.out.size)
      have Hw9 := hidden (Hw8.out.below hb9)
      have Hy9 := hidden (Hy8.out.below hb9)
      have Hm9 := hidden (Hm8.out.below hb9)
      have Hn9 := hidden hn
      clear hb9 HW8 Hw8 Hy8 Hm8 hn HNW
      obtain rfl : N.length = qn := Hn9.out.2.1
      go_wp2_with fail
      refine (same_zero _).mono ?_
      rintro e w10 ⟨rfl, hb10⟩
      have HW10 : Hid (Below w.heap.size w w10) := HW9.out.trans (hb10.mono HW9.out.size)
      have Hw10 := hidden (Hw9.out.below hb10)
      have Hy10 := hidden (Hy9.out.below hb10)
      have Hm10 := hidden (Hm9.out.below hb10)
      have Hn10 := hidden (Hn9.out.below hb10)
      clear hb10 HW9 Hw9 Hy9 Hm9 Hn9 
      go_wp2_with fail
      refine (mbrs_same am aw S.length cm cw S _ Hm10.out Hw10.out).mono ?_
      rintro e w11 ⟨rfl, hb11⟩
      have HW11 : Hid (Below w.heap.size w w11) := HW10.out.trans (hb11.mono HW10.out.size)
      have Hy11 := hidden (Hy10.out.below hb11)
      have Hn11 := hidden (Hn10.out.below hb11)
      clear hb11 HW10 Hw10 Hy10 Hm10 Hn10 
      go_wp2_with fail
      refine (mbrs_same an ay N.length cn cy N _ Hn11.out Hy11.out).mono ?_
      rintro e w12 ⟨rfl, hb12⟩
      have HW12 : Hid (Below w.heap.size w w12) := HW11.out.trans (hb12.mono HW11.out.size)
      clear hb12 HW11 Hy11 Hn11 
      have HI12 : Hid (ISt w w12 (.slice none 0 0) (alv (A.take 0))) := ⟨HW12.out, World.ownsRow_nil _ _ _ _⟩
      go_wp2_with fail
      go_loopg [24, 25] n (fun g s y wr => ∃ (j : Nat) (v : Value), j + g = n ∧ v = s ∧ y = .int .i64 (j : Int) ∧ Hid (ISt w wr v (alv (A.take j))))
      case atStart => exact ⟨0, _, by omega, rfl, rfl, HI12⟩
      case round =>
        obtain ⟨j, v, hjg, rfl, rfl, HS⟩ := hrel
        clear HI12 HW12
        by_cases hj : j < n
        · have hjz : (j : Int) < (n : Int) := by omega
          obtain ⟨b1, o1, rfl, hbl, hcs⟩ := (HA.out.below HS.out.1).at (by omega)
          obtain ⟨c0, c1, c2⟩ := hcs j hj
          have ht := take_snoc (L := A) (j := j) (by have := HLA.out; omega)
          obtain ⟨m, hm⟩ : ∃ m, A.getD j zz = m := ⟨_, rfl⟩
          rw [hm] at c0 c1 c2 ht
          clear hm hcs
          obtain ⟨x1, y1, u1⟩ := m
          simp only at c0 c1 c2
          have hal : alv (A.take (j + 1)) = alv (A.take j) ++ (if u1 then [x1] else []) := by
            rw [ht, alv, alv, List.filter_append, List.map_append]
            cases u1 <;> rfl
          have hKl : (alv (A.take j)).length ≤ j := by
            unfold alv
            rw [List.length_map]
            have h1 := List.length_filter_le (·.u) (A.take j)
            rw [List.length_take] at h1
            omega
          clear ht
          generalize alv (A.take j) = K at *
          cases u1 with
          | false =>
            have HAK : Hid (alv (A.take (j + 1)) = K) := by rw [hal]; unfold Hid; simp
            clear hal
            go_wp2_with fail
            go_roundg (n - (j + 1))
            case measure => omega
            case rel => exact ⟨j + 1, v, by omega, rfl, by go_num, by rw [HAK.out]; exact HS⟩
          | true =>
            have HAK : Hid (alv (A.take (j + 1)) = K ++ [x1]) := by rw [hal]; unfold Hid; simp
            clear hal
            have HS1 : Hid (ISt w (wr.alloc (.cells #[.int .i64 x1] 3)) v K) := HS.out.alloc _
            have HN1 := hidden (lit1 wr (.int .i64 x1) 3)
            go_wp2_with (at_builtin; refine wpList_append_own _ rfl _ _ 54 rfl w.heap.size 3 i3 _ 1 8 Tryd.underlying54 hi3 hz3 hz4 hz5 rfl (by decide) _ K.length (ic K) rfl HS1.out.2 ⟨wr.heap.size, 0, none⟩ 1 1 [.int .i64 x1] rfl rfl HN1.out ?one ?b1 ?b2 ?b3 ?next)
            case one => simp [Value.oneCell']
            case b1 => unfold maxLen; omega
            case b2 => omega
            case b3 => have := HS1.out.1.size; simpa using this
            case next =>
            intro v1 w' hown hgrow _
            have HS2 : Hid (ISt w w' v1 (K ++ [x1])) := HS1.out.more x1 hown hgrow
            clear hown hgrow
            go_wp2_with fail
            go_roundg (n - (j + 1))
            case measure => omega
            case rel => exact ⟨j + 1, v1, by omega, rfl, by go_num, by rw [HAK.out]; exact HS2⟩
        · have hjz : ¬ (j : Int) < (n : Int) := by omega
          have ej : j = n := by omega
          subst ej
          have hs := HS.out
          rw [← HLA.out, List.take_length] at hs
          have hR : (alv A).length ≤ 9223372036854775807 := by
            unfold alv
            rw [List.length_map]
            have h1 := List.length_filter_le (·.u) A
            have h2 := HLA.out
            omega
          obtain ⟨av, cv, rfl, hI, _⟩ := own_ints hs.2 hR
          have HV13 := hidden hI
          have HW13 := hidden hs.1
          obtain ⟨w13, hwr⟩ : ∃ z, z = wr := ⟨_, rfl⟩
          rw [← hwr] at HV13 HW13
          subst hwr
          clear hI hs HS hR
          go_wp2_with fail
          refine (HAL.out _ HW13.out).mono ?_
          rintro e w14 ⟨al, ql, cl, rfl, hl, _, hb14⟩
          have HW14 : Hid (Below w.heap.size w w14) := HW13.out.trans (hb14.mono HW13.out.size)
          have HV14 := hidden (HV13.out.below hb14)
          have Hl14 := hidden hl
          clear hb14 HW13 HV13 hl HAL
          obtain rfl : (alv A).length = ql := Hl14.out.2.1
          go_wp2_with fail
          refine (same_zero _).mono ?_
          rintro e w15 ⟨rfl, hb15⟩
          have HW15 : Hid (Below w.heap.size w w15) := HW14.out.trans (hb15.mono HW14.out.size)
          have HV15 := hidden (HV14.out.below hb15)
          have Hl15 := hidden (Hl14.out.below hb15)
          clear hb15 HW14 HV14 Hl14 
          go_wp2_with fail
          refine (ints_same al av (alv A).length cl cv (alv A) _ Hl15.out HV15.out).mono ?_
          rintro e w16 ⟨rfl, hb16⟩
          have HW16 : Hid (Below w.heap.size w w16) := HW15.out.trans (hb16.mono HW15.out.size)
          clear hb16 HW15 HV15 Hl15 
          by_cases h1 : x < 0
          · have d1 : decide (x < 0) = true := by simpa using h1
            have eb : bf A x = 1 := by unfold bf; rw [if_pos hzA, if_neg (by omega)]
            have ec : bmp A x u = [] := by unfold bmp; rw [if_neg (by rw [eb]; decide)]
            rw [eb, ec] at HBU
            clear eb ec
            go_wp2_with fail
            refine (HBU.out _ HW16.out).mono ?_
            rintro e w17 ⟨at1, qt, ct, rfl, ht, _, _, hb17⟩
            have HW17 : Hid (Below w.heap.size w w17) := HW16.out.trans (hb17.mono HW16.out.size)
            have Ht17 := hidden ht
            clear hb17 HW16  ht HBU
            obtain rfl : 0 = qt := Ht17.out.2.1
            go_wp2_with fail
            refine (same_gen 1 _ (by decide) (HGW.out _ HW17.out)).mono ?_
            rintro e w18 ⟨rfl, hb18⟩
            have HW18 : Hid (Below w.heap.size w w18) := HW17.out.trans (hb18.mono HW17.out.size)
            have Ht18 := hidden (Ht17.out.below hb18)
            clear hb18 HW17 Ht17 
            go_wp2_with fail
            refine (mbrs_same at1 none 0 ct 0 [] _ Ht18.out (MArg.nil _ _)).mono ?_
            rintro e w19 ⟨rfl, hb19⟩
            have HW19 : Hid (Below w.heap.size w w19) := HW18.out.trans (hb19.mono HW18.out.size)
            clear hb19 HW18 Ht18 
            go_wp2_with fail
            go_ret
            exact ⟨rfl, HW19.out⟩
          · have d1 : decide (x < 0) = false := by simpa using h1
            by_cases h2 : 15 < x
            · have d2 : decide (15 < x) = true := by simpa using h2
              have eb : bf A x = 1 := by unfold bf; rw [if_pos hzA, if_neg (by omega)]
              have ec : bmp A x u = [] := by unfold bmp; rw [if_neg (by rw [eb]; decide)]
              rw [eb, ec] at HBU
              clear eb ec
              go_wp2_with fail
              refine (HBU.out _ HW16.out).mono ?_
              rintro e w17 ⟨at1, qt, ct, rfl, ht, _, _, hb17⟩
              have HW17 : Hid (Below w.heap.size w w17) := HW16.out.trans (hb17.mono HW16.out.size)
              have Ht17 := hidden ht
              clear hb17 HW16  ht HBU
              obtain rfl : 0 = qt := Ht17.out.2.1
              go_wp2_with fail
              refine (same_gen 1 _ (by decide) (HGW.out _ HW17.out)).mono ?_
              rintro e w18 ⟨rfl, hb18⟩
              have HW18 : Hid (Below w.heap.size w w18) := HW17.out.trans (hb18.mono HW17.out.size)
              have Ht18 := hidden (Ht17.out.below hb18)
              clear hb18 HW17 Ht17 
              go_wp2_with fail
              refine (mbrs_same at1 none 0 ct 0 [] _ Ht18.out (MArg.nil _ _)).mono ?_
              rintro e w19 ⟨rfl, hb19⟩
              have HW19 : Hid (Below w.heap.size w w19) := HW18.out.trans (hb19.mono HW18.out.size)
              clear hb19 HW18 Ht18 
              go_wp2_with fail
              go_ret
              exact ⟨rfl, HW19.out⟩
            · have d2 : decide (15 < x) = false := by simpa using h2
              by_cases h3 : ver A x = 1000000
              · have eb : bf A x = 4 := by unfold bf; rw [if_pos hzA, if_pos (by omega), if_pos h3]
                have ec : bmp A x u = [] := by unfold bmp; rw [if_neg (by rw [eb]; decide)]
                rw [eb, ec] at HBU
                clear eb ec
                have H3 := hidden h3
                clear h3
                have CM := HMB.out
                go_wp2_with fail
                refine (HMB.out _ HW16.out).mono ?_
                rintro e w17 ⟨rfl, hb17⟩
                have HX17 : Hid (Below w.heap.size w (w17.alloc (.cells #[.int .i64 (gt A x).n, .int .i64 (gt A x).v, .bool (gt A x).u] 48)) ∧ MBox (w17.alloc (.cells #[.int .i64 (gt A x).n, .int .i64 (gt A x).v, .bool (gt A x).u] 48)) w17.heap.size (gt A x)) := ⟨below_alloc (HW16.out.trans (hb17.mono HW16.out.size)) _, MBox.new w17 _⟩
                have HLE : Hid (w.heap.size ≤ w17.heap.size) := Nat.le_trans HW16.out.size hb17.size
                clear hb17 HW16 CM
                obtain ⟨wy, hwy⟩ : ∃ wy, w17.alloc (.cells #[.int .i64 (gt A x).n, .int .i64 (gt A x).v, .bool (gt A x).u] 48) = wy := ⟨_, rfl⟩
                have HWY := hidden hwy
                rw [hwy] at HX17
                clear hwy
                obtain ⟨c0, c1, c2⟩ := HX17.out.2.cells
                have f0 := HX17.out.2.free 0
                have f1 := HX17.out.2.free 1
                have f2 := HX17.out.2.free 2
                rw [HGV.out] at c1
                have hvb := HVD.out
                generalize ver A x = y at *
                have HX2 : Hid (Below w.heap.size w (((wy.setCell ⟨w17.heap.size, 0, none⟩ (.int .i64 x)).setCell ⟨w17.heap.size, 1, none⟩ (.int .i64 (y + 1))).setCell ⟨w17.heap.size, 2, none⟩ (.bool u)) ∧ MBox (((wy.setCell ⟨w17.heap.size, 0, none⟩ (.int .i64 x)).setCell ⟨w17.heap.size, 1, none⟩ (.int .i64 (y + 1))).setCell ⟨w17.heap.size, 2, none⟩ (.bool u)) w17.heap.size ⟨x, y + 1, u⟩) := ⟨below_set3 HX17.out.1 HLE.out _ _ _ _ _ _, HX17.out.2.put3 ⟨x, y + 1, u⟩⟩
                go_upto_region 35 with fail
                rw [HWY.out]
                go_upto_region 38 with fail
                obtain ⟨wz, hwz⟩ : ∃ wz, ((wy.setCell ⟨w17.heap.size, 0, none⟩ (.int .i64 x)).setCell ⟨w17.heap.size, 1, none⟩ (.int .i64 (y + 1))).setCell ⟨w17.heap.size, 2, none⟩ (.bool u) = wz := ⟨_, rfl⟩
                rw [hwz] at HX2 ⊢
                clear hwz HX17 c0 c1 c2 f0 f1 f2 HWY
                obtain ⟨c0, c1, c2⟩ := HX2.out.2.cells
                simp only at c0 c1 c2
                have d3 : decide (1000000 < y + 1) = true := by have := H3.out; simp; omega
                have HW18 : Hid (Below w.heap.size w wz) := HX2.out.1
                clear HX2
                go_wp2_with fail
                refine (HBU.out _ HW18.out).mono ?_
                rintro e w19 ⟨at1, qt, ct, rfl, ht, _, _, hb19⟩
                have HW19 : Hid (Below w.heap.size w w19) := HW18.out.trans (hb19.mono HW18.out.size)
                have Ht19 := hidden ht
                clear hb19 HW18  ht HBU
                obtain rfl : 0 = qt := Ht19.out.2.1
                go_wp2_with fail
                refine (same_gen 4 _ (by decide) (HGW.out _ HW19.out)).mono ?_
                rintro e w20 ⟨rfl, hb20⟩
                have HW20 : Hid (Below w.heap.size w w20) := HW19.out.trans (hb20.mono HW19.out.size)
                have Ht20 := hidden (Ht19.out.below hb20)
                clear hb20 HW19 Ht19 
                go_wp2_with fail
                refine (mbrs_same at1 none 0 ct 0 [] _ Ht20.out (MArg.nil _ _)).mono ?_
                rintro e w21 ⟨rfl, hb21⟩
                have HW21 : Hid (Below w.heap.size w w21) := HW20.out.trans (hb21.mono HW20.out.size)
                clear hb21 HW20 Ht20 
                go_wp2_with fail
                go_ret
                exact ⟨rfl, HW21.out⟩
              · have eb : bf A x = 0 := by unfold bf; rw [if_pos hzA, if_pos (by omega), if_neg h3]
                have ec : bmp A x u = VM.put A (bm A x u) := by unfold bmp; rw [if_pos eb]
                rw [eb, ec, errv_zero] at HBU
                have hbm : bm A x u = ⟨x, ver A x + 1, u⟩ := by unfold bm; rw [Int.add_comm]
                have er : rmn A [⟨x, ver A x + 1, u⟩] 16 = VM.put A (bm A x u) := by
                  rw [← hbm, rmn_all (fit_iff.1 hzA) (show Fit [bm A x u] from Fit.nil.put (bm_ok u eb)), mrg_one u eb]
                have hrl : (VM.put A (bm A x u)).length ≤ 16 := (put_fit u eb).len
                generalize VM.put A (bm A x u) = R at *
                clear eb ec hbm
                have CM := HMB.out
                go_wp2_with fail
                refine (HMB.out _ HW16.out).mono ?_
                rintro e w17 ⟨rfl, hb17⟩
                have HX17 : Hid (Below w.heap.size w (w17.alloc (.cells #[.int .i64 (gt A x).n, .int .i64 (gt A x).v, .bool (gt A x).u] 48)) ∧ MBox (w17.alloc (.cells #[.int .i64 (gt A x).n, .int .i64 (gt A x).v, .bool (gt A x).u] 48)) w17.heap.size (gt A x)) := ⟨below_alloc (HW16.out.trans (hb17.mono HW16.out.size)) _, MBox.new w17 _⟩
                have HLE : Hid (w.heap.size ≤ w17.heap.size) := Nat.le_trans HW16.out.size hb17.size
                clear hb17 HW16 CM
                obtain ⟨wy, hwy⟩ : ∃ wy, w17.alloc (.cells #[.int .i64 (gt A x).n, .int .i64 (gt A x).v, .bool (gt A x).u] 48) = wy := ⟨_, rfl⟩
                have HWY := hidden hwy
                rw [hwy] at HX17
                clear hwy
                obtain ⟨c0, c1, c2⟩ := HX17.out.2.cells
                have f0 := HX17.out.2.free 0
                have f1 := HX17.out.2.free 1
                have f2 := HX17.out.2.free 2
                rw [HGV.out] at c1
                have hvb := HVD.out
                generalize ver A x = y at *
                have HX2 : Hid (Below w.heap.size w (((wy.setCell ⟨w17.heap.size, 0, none⟩ (.int .i64 x)).setCell ⟨w17.heap.size, 1, none⟩ (.int .i64 (y + 1))).setCell ⟨w17.heap.size, 2, none⟩ (.bool u)) ∧ MBox (((wy.setCell ⟨w17.heap.size, 0, none⟩ (.int .i64 x)).setCell ⟨w17.heap.size, 1, none⟩ (.int .i64 (y + 1))).setCell ⟨w17.heap.size, 2, none⟩ (.bool u)) w17.heap.size ⟨x, y + 1, u⟩) := ⟨below_set3 HX17.out.1 HLE.out _ _ _ _ _ _, HX17.out.2.put3 ⟨x, y + 1, u⟩⟩
                go_upto_region 35 with fail
                rw [HWY.out]
                go_upto_region 38 with fail
                obtain ⟨wz, hwz⟩ : ∃ wz, ((wy.setCell ⟨w17.heap.size, 0, none⟩ (.int .i64 x)).setCell ⟨w17.heap.size, 1, none⟩ (.int .i64 (y + 1))).setCell ⟨w17.heap.size, 2, none⟩ (.bool u) = wz := ⟨_, rfl⟩
                rw [hwz] at HX2 ⊢
                clear hwz HX17 c0 c1 c2 f0 f1 f2 HWY
                obtain ⟨c0, c1, c2⟩ := HX2.out.2.cells
                simp only at c0 c1 c2
                have d3 : decide (1000000 < y + 1) = false := by simp; omega
                have HXA : Hid (Below w.heap.size w (wz.alloc (.cells #[.int .i64 x, .int .i64 (y + 1), .bool u] 48)) ∧ MArg (wz.alloc (.cells #[.int .i64 x, .int .i64 (y + 1), .bool u] 48)) (some ⟨wz.heap.size, 0, none⟩) 1 [⟨x, y + 1, u⟩]) := by
                  refine ⟨below_alloc HX2.out.1 _, fun j hj => ⟨wz.heap.size, 0, rfl, ?_⟩, rfl, by omega⟩
                  obtain rfl : j = 0 := by simpa using hj
                  exact (MBox.new wz ⟨x, y + 1, u⟩).cells
                have HRX : Hid (Calls Tryd.prog 15 #[.slice a j cap, .slice (some ⟨wz.heap.size, 0, none⟩) 1 1] (wz.alloc (.cells #[.int .i64 x, .int .i64 (y + 1), .bool u] 48)) fun e w' => ∃ a' c', e = .returned (.slice a' R.length c') ∧ MArg w' a' R.length R ∧ R.length ≤ c' ∧ (a' = none → R.length = 0 ∧ c' = 0) ∧ Below (wz.alloc (.cells #[.int .i64 x, .int .i64 (y + 1), .bool u] 48)).heap.size (wz.alloc (.cells #[.int .i64 x, .int .i64 (y + 1), .bool u] 48)) w') := by
                  have := rmerge_calls a j cap A (some ⟨wz.heap.size, 0, none⟩) 1 1 [⟨x, y + 1, u⟩] _ (HA.out.below HXA.out.1) HXA.out.2
                  rw [er] at this
                  exact this
                clear er HX2
                go_wp2_with fail
                refine HRX.out.mono ?_
                rintro e w18 ⟨ax, cx, rfl, hx, _, _, hb⟩
                have HW18 : Hid (Below w.heap.size w w18) := HXA.out.1.trans (hb.mono HXA.out.1.size)
                have Hx18 := hidden hx
                clear hb hx HXA HRX
                go_wp2_with fail
                refine (HBU.out _ HW18.out).mono ?_
                rintro e w19 ⟨at1, qt, ct, rfl, ht, _, _, hb19⟩
                have HW19 : Hid (Below w.heap.size w w19) := HW18.out.trans (hb19.mono HW18.out.size)
                have Hx19 := hidden (Hx18.out.below hb19)
                have Ht19 := hidden ht
                clear hb19 HW18 Hx18 ht HBU
                obtain rfl : R.length = qt := Ht19.out.2.1
                go_wp2_with fail
                refine (same_zero _).mono ?_
                rintro e w20 ⟨rfl, hb20⟩
                have HW20 : Hid (Below w.heap.size w w20) := HW19.out.trans (hb20.mono HW19.out.size)
                have Hx20 := hidden (Hx19.out.below hb20)
                have Ht20 := hidden (Ht19.out.below hb20)
                clear hb20 HW19 Hx19 Ht19 
                go_wp2_with fail
                refine (mbrs_same at1 ax R.length ct cx R _ Ht20.out Hx20.out).mono ?_
                rintro e w21 ⟨rfl, hb21⟩
                have HW21 : Hid (Below w.heap.size w w21) := HW20.out.trans (hb21.mono HW20.out.size)
                clear hb21 HW20 Hx20 Ht20 
                go_wp2_with fail
                go_ret
                exact ⟨rfl, HW21.out⟩

theorem walk (a : Option Addr) (n cap : Nat) (A : List Mb) (b : Option Addr) (k cb : Nat) (B : List Mb) (x : Int) (u : Bool) (w : World)
    (hg : w.cell? ⟨0, 0, none⟩ = some (.iface 93 (.agg #[.pointer (some ⟨1, 25, none⟩)]))) (hA : MArg w a n A) (hnA : a = none → n = 0 ∧ cap = 0) (hB : MArg w b k B) :
    Calls Tryd.prog 4 #[.slice a n cap, .slice b k cb, .int .i64 x, .bool u] w fun e w' => e = .returned (.bool true) ∧ Below w.heap.size w w' := by
  by_cases hzA : vf A = 0
  · by_cases hzB : vf B = 0
    · exact both_good a n cap A b k cb B x u w hg hA hnA hB hzA hzB
    · exact second_bad a n cap A b k cb B x u w hg hA hnA hB hzA hzB
  · exact first_bad a n cap A b k cb B x u w hg hA hnA hB hzA
end Go.Proofs.YtlahlgoknolniafDoor.VMerges
