/-
  The walk of the Go function PackGoes: it returns true at any packet, any bytes and any number. It changes nothing that was there. Its condition: package errors' variable errorType is as its text lays it.
-/
import Derived.Test.YtdmajaofjfgccabDoorRPackE
import Derived.Test.YtdmajaofjfgccabDoorTold
namespace Go.Proofs.YtdmajaofjfgccabDoor.Goes
open Go.ChangeShapes Go.WideShapes Go.ChangeAt Go.RowKit Go.Proofs.YtdmajaofjfgccabDoor.PM Go.Proofs.YtdmajaofjfgccabDoor.Mem Go.Proofs.YtdmajaofjfgccabDoor.Pack Go.Proofs.YtdmajaofjfgccabDoor.RPack
set_option linter.unusedVariables false

theorem same_gen (e : Nat) (w : World) (he : e ≤ 100) (hg : w.cell? ⟨0, 0, none⟩ = some (.iface 81 (.agg #[.pointer (some ⟨1, 25, none⟩)]))) :
    Calls Tryd.prog 11 #[errv e, .int .i64 (e : Int)] w fun ev w' => ev = .returned (.bool true) ∧ Below w.heap.size w w' := by
  by_cases h : e = 0
  · subst h
    refine (Told.same_nil 0 w).mono ?_
    rintro ev w' ⟨rfl, rfl⟩
    exact ⟨rfl, Below.refl _ _⟩
  · unfold errv
    rw [if_neg h]
    refine (Told.same_err (e : Int) (e : Int) w (by omega) (by omega) hg).mono ?_
    rintro ev w' ⟨rfl, hb⟩
    exact ⟨by simp, hb⟩
theorem lt_of_cell {w : World} {v : Value} (h : w.cell? ⟨0, 0, none⟩ = some v) : 0 < w.heap.size := by
  rcases Nat.eq_zero_or_pos w.heap.size with h0 | h'
  · simp [World.cell?, h0] at h
  · exact h'
theorem rfault_le (B : List Nat) : rfault B ≤ 100 := by
  unfold rfault
  split
  · omega
  · split
    · split <;> omega
    · omega
/-- nothing that was there has changed, and p is in its variable -/
def St (w wx : World) (s t l v : Int) (st : Bool) (bv : Value) : Prop := Below w.heap.size w wx ∧ Box wx w.heap.size s t l v st bv
theorem St.next {w wx wy : World} {s t l v : Int} {st : Bool} {bv : Value} (h : St w wx s t l v st bv) (hb : Below wx.heap.size wx wy) : St w wy s t l v st bv := ⟨h.1.trans (hb.mono h.1.size), h.2.below hb h.2.lt⟩
theorem St.alloc {w wx : World} {s t l v : Int} {st : Bool} {bv : Value} (h : St w wx s t l v st bv) (o : Obj) : St w (wx.alloc o) s t l v st bv := h.next ((Below.refl _ _).alloc (Nat.le_refl _) o)

set_option maxHeartbeats 4000000 in
set_option maxRecDepth 100000 in
theorem walk (s t l v : Int) (st : Bool) (a0 : Option Addr) (n0 cap0 : Nat) (L : List Nat) (a1 : Option Addr) (n1 cap1 : Nat) (B : List Nat) (size : Int) (w : World) (hg : w.cell? ⟨0, 0, none⟩ = some (.iface 81 (.agg #[.pointer (some ⟨1, 25, none⟩)])))
    (hA : Arg w a0 n0 L) (hn : a0 = none → n0 = 0 ∧ cap0 = 0) (hcap : n0 ≤ cap0) (hB : Arg w a1 n1 B) (hcap1 : n1 ≤ cap1) :
    Calls Tryd.prog 4 #[.agg #[.int .i64 s, .int .i64 t, .int .i64 l, .int .i64 v, .bool st, .slice a0 n0 cap0], .slice a1 n1 cap1, .int .i64 size] w fun e w' => e = .returned (.bool true) ∧ Below w.heap.size w w' := by
  have HRP := hidden (fun W => rpacket_calls s t l v st a0 n0 cap0 W)
  have HPB := hidden (fun W h hf => rpackbytes_all s t l v st a0 n0 cap0 L W h hn hf)
  have HCK := hidden (fun W => check_calls s t l v st a0 n0 cap0 W)
  have HEN := hidden (fun W h => encode_all s t l v st a0 n0 cap0 L W h hn)
  have HE0 : Hid (fault s t l v n0 ≠ 0 → encB s t l v st n0 L = []) := fun h => by unfold encB; rw [if_neg h]
  have HRR := hidden (fun W h => rread_all a1 n1 cap1 B W h hcap1)
  have HRD := hidden (fun W h => read_all a1 n1 cap1 B W h hcap1)
  have HRS := hidden (fun W h => rsplit_all s t l v st a0 n0 cap0 L size W h hn hcap)
  have HSP := hidden (fun W h => split_all s t l v st a0 n0 cap0 L size W h hn hcap)
  have hf4 : fault s t l v n0 ≤ 100 := by have := fault_cases s t l v n0; omega
  have hr8 : rfault B ≤ 100 := rfault_le B
  have hsf : sfault s t l v n0 size ≤ 100 := by have := sfault_le s t l v n0 size; omega
  have hspn := spN_le s t l v n0 size
  have HER := hidden same_gen
  generalize fault s t l v n0 = f at *
  generalize rfault B = r at *
  generalize sfault s t l v n0 size = sf at *
  generalize spN s t l v n0 size = N at *
  generalize spF s t l v st L size = F at *
  generalize encB s t l v st n0 L = EB at *
  generalize rd B = q at *
  obtain ⟨q0, q1, q2, q3, q4, q5⟩ := q
  obtain ⟨bf, hbf⟩ : ∃ b, ((f : Int) == 0) = b := ⟨_, rfl⟩
  have hbf' : bf = decide (f = 0) := by
    rw [← hbf]
    by_cases p : f = 0
    · subst p; rfl
    · simp [p]
  have HBF := hidden hbf'
  have HA := hidden hA
  have HB := hidden hB
  have HG := hidden hg
  clear hA hB hg hbf'
  go_enter Tryd.func4, Tryd.ntmps4
  go_wp2_with fail
  refine (HRP.out _).mono ?_
  rintro e w1 ⟨rfl, hb1⟩
  have HX : Hid (St w w1 s t l v st (.slice a0 n0 cap0)) := ⟨below_old hb1, (Box.new w s t l v st (.slice a0 n0 cap0)).below hb1 (by simp)⟩
  clear hb1 HRP
  obtain ⟨c0, c1, c2, c3, c4, c5⟩ := HX.out.2.cells
  go_upto_if 24 with fail
  go_cut [8] from 25 (fun x wx => ∃ aw mw cw, x = .slice aw mw cw ∧ Hid (St w wx s t l v st (.slice a0 n0 cap0) ∧ Arg wx aw mw EB))
  case first =>
    cases bf with
    | true =>
      have HF0 : Hid (f = 0) := by have := HBF.out; exact (by simpa using this : f = 0)
      go_wp2_with fail
      refine (HPB.out _ (HA.out.below HX.out.1) HF0.out).mono ?_
      rintro e w2 ⟨a2, m2, k2, rfl, hb2, hE2⟩
      have HX2 : Hid (St w w2 s t l v st (.slice a0 n0 cap0) ∧ Arg w2 a2 m2 EB) := ⟨HX.out.next hb2, hE2⟩
      clear hb2 hE2
      go_wp2_with fail
      go_meet
      exact ⟨a2, m2, k2, rfl, HX2⟩
    | false =>
      have HEE : Hid (EB = []) := HE0.out (by have := HBF.out; simpa using this)
      go_wp2_with fail
      go_meet
      exact ⟨none, 0, 0, rfl, HX.out, by rw [HEE.out]; exact ⟨Bys.nil _ _, rfl, by omega⟩⟩
  case rest =>
  obtain ⟨aw, mw, cw, rfl, HX3⟩ := hcut
  clear c0 c1 c2 c3 c4 c5 HX HPB HE0
  obtain ⟨c0, c1, c2, c3, c4, c5⟩ := HX3.out.1.2.cells
  go_wp2_with fail
  refine (HCK.out _).mono ?_
  rintro e w4 ⟨rfl, hb4⟩
  have HX4 := hidden (HX3.out.1.next hb4)
  have HW4 := hidden (HX3.out.2.below hb4)
  have HG4 := hidden ((HX4.out.1.cell (p := ⟨0, 0, none⟩) (lt_of_cell HG.out)).trans HG.out)
  clear hb4 c0 c1 c2 c3 c4 c5 HX3 HCK
  go_wp2_with fail
  refine (HER.out f _ hf4 HG4.out).mono ?_
  rintro e w5 ⟨rfl, hb5⟩
  have HX5 := hidden (HX4.out.next hb5)
  have HW5 := hidden (HW4.out.below hb5)
  clear hb5 HX4 HW4 HG4
  obtain ⟨c0, c1, c2, c3, c4, c5⟩ := HX5.out.2.cells
  go_wp2_with fail
  refine (HEN.out _ (HA.out.below HX5.out.1)).mono ?_
  rintro e w6 ⟨a6, m6, k6, rfl, hb6, hE6⟩
  have HX6 := hidden (HX5.out.next hb6)
  have HW6 := hidden (HW5.out.below hb6)
  have HY6 := hidden hE6
  have HG6 := hidden ((HX6.out.1.cell (p := ⟨0, 0, none⟩) (lt_of_cell HG.out)).trans HG.out)
  clear hb6 hE6 c0 c1 c2 c3 c4 c5 HX5 HW5 HEN
  go_wp2_with fail
  refine (HER.out f _ hf4 HG6.out).mono ?_
  rintro e w7 ⟨rfl, hb7⟩
  have HX7 := hidden (HX6.out.next hb7)
  have HW7 := hidden (HW6.out.below hb7)
  have HY7 := hidden (HY6.out.below hb7)
  clear hb7 HX6 HW6 HY6 HG6
  go_wp2_with fail
  refine (HRR.out _ (HB.out.below HX7.out.1)).mono ?_
  rintro e w8 ⟨a8, m8, k8, rfl, hb8, hE8⟩
  have HX8 := hidden (HX7.out.next hb8)
  have HW8 := hidden (HW7.out.below hb8)
  have HY8 := hidden (HY7.out.below hb8)
  have HQ8 := hidden hE8
  clear hb8 hE8 HX7 HW7 HY7 HRR
  go_wp2_with fail
  refine (HRD.out _ (HB.out.below (HX8.out.alloc _).1)).mono ?_
  rintro e w9 ⟨a9, m9, k9, rfl, hb9, hE9⟩
  have HX9 := hidden ((HX8.out.alloc _).next hb9)
  have HW9 := hidden ((HW8.out.below ((Below.refl _ _).alloc (Nat.le_refl _) _)).below hb9)
  have HY9 := hidden ((HY8.out.below ((Below.refl _ _).alloc (Nat.le_refl _) _)).below hb9)
  have HQ9 := hidden ((HQ8.out.below ((Below.refl _ _).alloc (Nat.le_refl _) _)).below hb9)
  have HR9 := hidden hE9
  have HV9 := hidden ((Box.new w8 q0 q1 q2 q3 q4 (.slice a8 m8 k8)).below hb9 (by simp))
  have hl89 : w8.heap.size < w9.heap.size := HV9.out.lt
  clear hb9 hE9 HX8 HW8 HY8 HQ8 HRD
  have HG9 := hidden (fun O => ((HX9.out.alloc O).1.cell (p := ⟨0, 0, none⟩) (lt_of_cell HG.out)).trans HG.out)
  go_wp2_with fail
  refine (HER.out r _ hr8 (HG9.out _)).mono ?_
  rintro e w10 ⟨rfl, hb10⟩
  have HX10 := hidden ((HX9.out.alloc _).next hb10)
  have HW10 := hidden ((HW9.out.below ((Below.refl _ _).alloc (Nat.le_refl _) _)).below hb10)
  have HY10 := hidden ((HY9.out.below ((Below.refl _ _).alloc (Nat.le_refl _) _)).below hb10)
  have HQ10 := hidden ((HQ9.out.below ((Below.refl _ _).alloc (Nat.le_refl _) _)).below hb10)
  have HR10 := hidden ((HR9.out.below ((Below.refl _ _).alloc (Nat.le_refl _) _)).below hb10)
  have HV10 := hidden ((HV9.out.alloc _).below hb10 (by simp; omega))
  have HU10 := hidden ((Box.new w9 q0 q1 q2 q3 q4 (.slice a9 m9 k9)).below hb10 (by simp))
  clear hb10 HX9 HW9 HY9 HQ9 HR9 HV9 HG9
  obtain ⟨d0, d1, d2, d3, d4, d5⟩ := HV10.out.cells
  obtain ⟨u0, u1, u2, u3, u4, u5⟩ := HU10.out.cells
  go_wp2_with fail
  refine (same_pk q0 q1 q2 q3 q4 a9 a8 m9 m8 k9 k8 q5 _ HR10.out HQ10.out).mono ?_
  rintro e w11 ⟨rfl, hb11⟩
  have HX11 := hidden (HX10.out.next hb11)
  have HW11 := hidden (HW10.out.below hb11)
  have HY11 := hidden (HY10.out.below hb11)
  clear hb11 HX10 HW10 HY10 HQ10 HR10 HV10 HU10 d0 d1 d2 d3 d4 d5 u0 u1 u2 u3 u4 u5
  obtain ⟨c0, c1, c2, c3, c4, c5⟩ := HX11.out.2.cells
  go_wp2_with fail
  refine (HRS.out _ (HA.out.below HX11.out.1)).mono ?_
  rintro e w12 ⟨a12, k12, rfl, hb12, hP12⟩
  have HX12 := hidden (HX11.out.next hb12)
  have HW12 := hidden (HW11.out.below hb12)
  have HY12 := hidden (HY11.out.below hb12)
  have HP12 := hidden hP12
  clear hb12 hP12 HX11 HW11 HY11 c0 c1 c2 c3 c4 c5 HRS
  obtain ⟨c0, c1, c2, c3, c4, c5⟩ := HX12.out.2.cells
  go_wp2_with fail
  refine (HSP.out _ (HA.out.below HX12.out.1)).mono ?_
  rintro e w13 ⟨a13, k13, rfl, hb13, hP13⟩
  have HX13 := hidden (HX12.out.next hb13)
  have HW13 := hidden (HW12.out.below hb13)
  have HY13 := hidden (HY12.out.below hb13)
  have HP13 := hidden (HP12.out.below hb13)
  have HM13 := hidden hP13
  have HG13 := hidden ((HX13.out.1.cell (p := ⟨0, 0, none⟩) (lt_of_cell HG.out)).trans HG.out)
  clear hb13 hP13 HX12 HW12 HY12 HP12 c0 c1 c2 c3 c4 c5 HSP
  go_wp2_with fail
  refine (HER.out sf _ hsf HG13.out).mono ?_
  rintro e w14 ⟨rfl, hb14⟩
  have HX14 := hidden (HX13.out.next hb14)
  have HW14 := hidden (HW13.out.below hb14)
  have HY14 := hidden (HY13.out.below hb14)
  have HP14 := hidden (HP13.out.below hb14)
  have HM14 := hidden (HM13.out.below hb14)
  clear hb14 HX13 HW13 HY13 HP13 HM13 HG13
  go_wp2_with fail
  refine (same_pks a13 a12 N k13 k12 F _ HM14.out HP14.out hspn).mono ?_
  rintro e w15 ⟨rfl, hb15⟩
  have HX15 := hidden (HX14.out.next hb15)
  have k1 := str_conv (cap := cw) (HW14.out.below hb15)
  have k2 := str_conv (cap := k6) (HY14.out.below hb15)
  clear hb15 HX14 HW14 HY14 HP14 HM14
  generalize str EB = SE at *
  go_wp2_with fail
  go_ret
  exact ⟨by simp, HX15.out.1⟩
end Go.Proofs.YtdmajaofjfgccabDoor.Goes
