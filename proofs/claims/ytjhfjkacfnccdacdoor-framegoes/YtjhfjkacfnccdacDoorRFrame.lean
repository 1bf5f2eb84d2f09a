/-
  What the reference's Frame, FrameBytes and ReadFrame return, whatever they are given: in the words of package frame's. They change nothing that was there.
-/
import Derived.Test.YtjhfjkacfnccdacDoorFrameD
import Derived.Test.YtjhfjkacfnccdacDoorRCrc
import Derived.Test.YtjhfjkacfnccdacDoorRPack
namespace Go.Proofs.YtjhfjkacfnccdacDoor.RFrame
open Go.ChangeShapes Go.WideShapes Go.ChangeAt Go.RowKit Go.Proofs.YtjhfjkacfnccdacDoor.PM Go.Proofs.YtjhfjkacfnccdacDoor.CM Go.Proofs.YtjhfjkacfnccdacDoor.Mem Go.Proofs.YtjhfjkacfnccdacDoor.Pack Go.Proofs.YtjhfjkacfnccdacDoor.FM Go.Proofs.YtjhfjkacfnccdacDoor.Frame
set_option linter.unusedVariables false

/-- the reference's Open, of whatever bytes -/
theorem ropen_all (a : Option Addr) (n cap : Nat) (B : List Nat) (w : World) (h : Arg w a n B) (hc : n ≤ cap) :
    Calls Tryd.prog 23 #[.slice a n cap] w fun e w' => ∃ a' m c', e = .returned (.tuple #[.slice a' m c', .int .i64 (ofault B : Nat)]) ∧ Below w.heap.size w w' ∧ (ofault B = 0 → Arg w' a' m (opened B) ∧ m ≤ c' ∧ a' = a) := by
  have hl := h.2.1
  by_cases h4 : n < 4
  · have ho : ofault B = 8 := by unfold ofault; rw [if_pos (by omega)]
    refine (RCrc.ropen_short a n cap w h4).mono ?_
    rintro e w' ⟨rfl, rfl⟩
    exact ⟨none, 0, 0, by rw [ho]; rfl, Below.refl _ _, fun h => by omega⟩
  · obtain ⟨X, t0, t1, t2, t3, rfl, _⟩ := split4 (B := B) (by omega)
    obtain ⟨e1, e2⟩ := ofault_split X t0 t1 t2 t3
    obtain ⟨b, o, rfl⟩ := arg_at h (by omega)
    obtain ⟨m, rfl⟩ : ∃ m, n = m + 4 := ⟨n - 4, by omega⟩
    have hm : X.length = m := by simp at hl; omega
    rw [e1, e2]
    by_cases q : num 0 [t0, t1, t2, t3] = go 0 X
    · rw [if_pos q]
      refine (RCrc.ropen_good b o cap m X t0 t1 t2 t3 w hm h hc q).mono ?_
      rintro e w' ⟨rfl, k, rfl⟩
      have hT : Arg w (some ⟨b, o, none⟩) m X := by
        have := h.take m (by omega)
        rw [← hm, List.take_left] at this
        rw [hm] at this
        exact this
      exact ⟨some ⟨b, o, none⟩, m, cap, rfl, below_drewN (Below.refl _ _) _, fun _ => ⟨hT.below (below_drewN (Below.refl _ _) _), by omega, rfl⟩⟩
    · rw [if_neg q]
      refine (RCrc.ropen_bad b o cap m X t0 t1 t2 t3 w hm h hc q).mono ?_
      rintro e w' ⟨rfl, k, rfl⟩
      exact ⟨none, 0, 0, rfl, below_drewN (Below.refl _ _) _, fun h => by omega⟩

/-- the reference's ReadPack, of whatever bytes: its fault -/
theorem rreadpack_all (a : Option Addr) (n cap : Nat) (B : List Nat) (w : World) (h : Arg w a n B) (hc : n ≤ cap) :
    Calls Tryd.prog 16 #[.slice a n cap] w fun e w' => ∃ (s t l v : Int) (st : Bool) (a' : Option Addr) (m c' : Nat), e = .returned (.tuple #[.agg #[.int .i64 s, .int .i64 t, .int .i64 l, .int .i64 v, .bool st, .slice a' m c'], .int .i64 (rfault B : Nat)]) ∧ Below w.heap.size w w' := by
  have hlen := h.2.1
  by_cases h8 : n < 8
  · refine (RPack.rread_short a n cap w h8).mono ?_
    rintro e w' ⟨rfl, hb⟩
    exact ⟨_, _, _, _, _, _, _, _, by rw [rfault_short (by omega)]; rfl, hb⟩
  · obtain ⟨b, o, rfl⟩ := arg_at h (by omega)
    obtain ⟨x0, x1, x2, x3, x4, x5, x6, x7, R, rfl⟩ := eight (B := B) (by omega)
    have hx : ∀ c ∈ x0 :: x1 :: x2 :: x3 :: x4 :: x5 :: x6 :: x7 :: R, c < 256 := h.1.1
    have c0 : w.cell? ⟨b, o, none⟩ = some (.int .u8 (x0 : Int)) := arg_cell h 0 (by omega)
    have c1 : w.cell? ⟨b, o + 1, none⟩ = some (.int .u8 (x1 : Int)) := arg_cell h 1 (by omega)
    have hR : R.length + 8 = n := by simp at hlen; omega
    rw [rfault_eight]
    by_cases hg : (good x0 && decide (x1 ≤ 127)) = true
    · rw [if_pos hg]
      obtain ⟨g1, g2⟩ := Bool.and_eq_true_iff.1 hg
      by_cases hl : R.length ≤ 1000
      · rw [if_pos hl]
        refine (RPack.rread_good b o n cap x0 x1 x2 x3 x4 x5 x6 x7 R w h hc g1 (of_decide_eq_true g2) hl).mono ?_
        rintro e w' ⟨a', rfl, _, hb⟩
        exact ⟨_, _, _, _, _, _, _, _, rfl, hb⟩
      · rw [if_neg hl]
        refine (RPack.rread_full b o n cap x0 x1 w (by omega) (hx _ (by simp)) (hx _ (by simp)) c0 c1 g1 (of_decide_eq_true g2) h.2.2).mono ?_
        rintro e w' ⟨rfl, hb⟩
        exact ⟨_, _, _, _, _, _, _, _, rfl, hb⟩
    · rw [if_neg hg]
      refine (RPack.rread_syntax b o n cap x0 x1 w (by omega) (hx _ (by simp)) (hx _ (by simp)) c0 c1 (by simpa using hg)).mono ?_
      rintro e w' ⟨rfl, hb⟩
      exact ⟨_, _, _, _, _, _, _, _, rfl, hb⟩

set_option maxHeartbeats 1000000 in
set_option maxRecDepth 100000 in
theorem rframe_calls (tr og ep hp : Int) (a : Option Addr) (n cap : Nat) (B : List Nat) (w : World) (h : Arg w a n B) (hc : n ≤ cap) :
    Calls Tryd.prog 5 #[.agg #[.int .i64 tr, .int .i64 og, .int .i64 ep, .int .i64 hp, .slice a n cap]] w fun e w' => e = .returned (.int .i64 (ffault tr og ep hp B : Nat)) ∧ Below w.heap.size w w' := by
  have C1 := fun w => RPack.rseq_calls ep w
  have C5 : ∀ W, Below w.heap.size w W → Calls Tryd.prog 16 #[.slice a n cap] W _ := fun W hW => rreadpack_all a n cap B W (h.below hW) hc
  have hbad : ¬ nums tr og ep hp → ffault tr og ep hp B = 1 := fun h => by unfold ffault; rw [if_neg h]
  have hgood : nums tr og ep hp → ffault tr og ep hp B = rfault B := fun h => by unfold ffault; rw [if_pos h]
  unfold nums at hbad hgood
  generalize ffault tr og ep hp B = f at *
  obtain ⟨bE, hE⟩ : ∃ b, decide (0 ≤ ep ∧ ep ≤ 65535) = b := ⟨_, rfl⟩
  rw [hE] at C1
  have H1 := hidden C1
  have H5 := hidden C5
  have HBD := hidden hbad
  have HGD := hidden hgood
  have HE := hidden hE
  clear C1 C5 hbad hgood hE h
  by_cases q0 : tr < 1
  · have d0 : decide (tr < 1) = true := by simpa using q0
    go_enter Tryd.func5, Tryd.ntmps5
    go_wp2_with fail
    refine (H1.out _).mono ?_
    rintro e w1 ⟨rfl, rfl⟩
    go_wp2_with fail
    go_ret
    exact ⟨by rw [HBD.out (by omega)]; rfl, (Below.refl _ _).alloc (Nat.le_refl _) _⟩
  have d0 : decide (tr < 1) = false := by simpa using q0
  by_cases q1 : 8 < tr
  · have d1 : decide (8 < tr) = true := by simpa using q1
    go_enter Tryd.func5, Tryd.ntmps5
    go_wp2_with fail
    refine (H1.out _).mono ?_
    rintro e w1 ⟨rfl, rfl⟩
    go_wp2_with fail
    go_ret
    exact ⟨by rw [HBD.out (by omega)]; rfl, (Below.refl _ _).alloc (Nat.le_refl _) _⟩
  have d1 : decide (8 < tr) = false := by simpa using q1
  by_cases q2 : og < 0
  · have d2 : decide (og < 0) = true := by simpa using q2
    go_enter Tryd.func5, Tryd.ntmps5
    go_wp2_with fail
    refine (H1.out _).mono ?_
    rintro e w1 ⟨rfl, rfl⟩
    go_wp2_with fail
    go_ret
    exact ⟨by rw [HBD.out (by omega)]; rfl, (Below.refl _ _).alloc (Nat.le_refl _) _⟩
  have d2 : decide (og < 0) = false := by simpa using q2
  by_cases q3 : 15 < og
  · have d3 : decide (15 < og) = true := by simpa using q3
    go_enter Tryd.func5, Tryd.ntmps5
    go_wp2_with fail
    refine (H1.out _).mono ?_
    rintro e w1 ⟨rfl, rfl⟩
    go_wp2_with fail
    go_ret
    exact ⟨by rw [HBD.out (by omega)]; rfl, (Below.refl _ _).alloc (Nat.le_refl _) _⟩
  have d3 : decide (15 < og) = false := by simpa using q3
  cases bE with
  | false =>
    go_enter Tryd.func5, Tryd.ntmps5
    go_wp2_with fail
    refine (H1.out _).mono ?_
    rintro e w1 ⟨rfl, rfl⟩
    go_wp2_with fail
    go_ret
    exact ⟨by rw [HBD.out (by have := of_decide_eq_false HE.out; omega)]; rfl, (Below.refl _ _).alloc (Nat.le_refl _) _⟩
  | true =>
  by_cases q5 : hp < 0
  · have d5 : decide (hp < 0) = true := by simpa using q5
    go_enter Tryd.func5, Tryd.ntmps5
    go_wp2_with fail
    refine (H1.out _).mono ?_
    rintro e w1 ⟨rfl, rfl⟩
    go_wp2_with fail
    go_ret
    exact ⟨by rw [HBD.out (by omega)]; rfl, (Below.refl _ _).alloc (Nat.le_refl _) _⟩
  have d5 : decide (hp < 0) = false := by simpa using q5
  by_cases q6 : 64 < hp
  · have d6 : decide (64 < hp) = true := by simpa using q6
    go_enter Tryd.func5, Tryd.ntmps5
    go_wp2_with fail
    refine (H1.out _).mono ?_
    rintro e w1 ⟨rfl, rfl⟩
    go_wp2_with fail
    go_ret
    exact ⟨by rw [HBD.out (by omega)]; rfl, (Below.refl _ _).alloc (Nat.le_refl _) _⟩
  have d6 : decide (64 < hp) = false := by simpa using q6
  have hz : f = rfault B := HGD.out (by have := of_decide_eq_true HE.out; omega)
  have HZ := hidden hz
  clear hz HBD HGD q0 q1 q2 q3 q5 q6
  generalize rfault B = r at *
  go_enter Tryd.func5, Tryd.ntmps5
  go_wp2_with fail
  refine (H1.out _).mono ?_
  rintro e w1 ⟨rfl, rfl⟩
  go_wp2_with fail
  refine (H5.out _ ((Below.refl _ _).alloc (Nat.le_refl _) _)).mono ?_
  rintro e w2 ⟨_, _, _, _, _, _, _, _, rfl, hb⟩
  have HB := hidden (below_old hb)
  clear hb
  go_wp2_with fail
  go_ret
  exact ⟨by rw [HZ.out]; rfl, HB.out.alloc HB.out.size _⟩
end Go.Proofs.YtjhfjkacfnccdacDoor.RFrame
