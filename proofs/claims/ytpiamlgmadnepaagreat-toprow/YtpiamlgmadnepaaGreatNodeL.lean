/-
  What Send of package node refuses: a track that was not planned, or begins elsewhere. Its condition: the node is such as it may be.
-/
import Derived.Test.YtpiamlgmadnepaaGreatNodeK
namespace Go.Proofs.YtpiamlgmadnepaaGreat.ND
open Go.ChangeShapes Go.WideShapes Go.ChangeAt Go.RowKit Go.Maps Go.Proofs.YtpiamlgmadnepaaGreat.Mem Go.Proofs.YtpiamlgmadnepaaGreat.NO
set_option linter.unusedVariables false

set_option maxHeartbeats 1000000 in
theorem send_none (n b : Nat) (o : Nat → Tg) (P : NP) (N : Nd) (tk now s t l q : Int) (st : Bool) (bv : Value) (w : World) (hN : NAt w o n b P N) (hnow : GM.tf N.nw now = 0) (hT : okT tk = true) (hx : N.at tk = none) :
    Calls Tryz.prog 45 #[.pointer (some ⟨b, 0, none⟩), .int .i64 tk, .agg #[.int .i64 s, .int .i64 t, .int .i64 l, .int .i64 q, .bool st, bv], .int .i64 now] w fun e w' => e = .returned (errv 5) ∧ Below w.heap.size w w' := by
  obtain ⟨W0, hW0⟩ : ∃ W0, w.alloc (.cells #[.int .i64 s, .int .i64 t, .int .i64 l, .int .i64 q, .bool st, bv] 38) = W0 := ⟨_, rfl⟩
  have hB0 : Below w.heap.size w W0 := by rw [← hW0]; exact (Below.refl _ _).alloc (Nat.le_refl _) _
  have CT := hidden (isTrack_calls tk)
  rw [hT] at CT
  have CA := hidden (Gaps.at_calls N.nw now W0)
  rw [if_pos hnow, hnow] at CA
  obtain ⟨k, hkk, hk1, hk2⟩ : ∃ k : Nat, k < 8 ∧ tk = (k : Int) + 1 ∧ (tk - 1).toNat = k := ⟨(tk - 1).toNat, by simp [okT] at hT; omega, by simp [okT] at hT; omega, rfl⟩
  have hk3 : wrap64 (tk - 1) = (k : Int) := by unfold wrap64; omega
  have hk4 : (k : Int) < 8 := by omega
  unfold Nd.at at hx
  rw [hk2] at hx
  have HN := hidden hN
  have HB0 := hidden hB0
  have HW := hidden hW0
  have c0 := (hN.below hB0).cells.1
  obtain ⟨nw, hnw⟩ : ∃ nw, N.nw = nw := ⟨_, rfl⟩
  rw [hnw] at c0 CA
  clear hN hT hnow hk1 hk2 hB0 hW0 hnw
  go_enter Tryz.func45, Tryz.ntmps45
  go_upto_region 1 with fail
  rw [HW.out]
  go_wp2_with fail
  refine CA.out.mono ?_
  rintro e w1 ⟨rfl, hb1⟩
  rw [show Gaps.errv 0 = Value.nilIface from rfl]
  obtain ⟨W1, hW1⟩ : ∃ W1, w1.alloc (.cells #[.int .i64 now] 89) = W1 := ⟨_, rfl⟩
  have hB1 : Below w.heap.size w W1 := by rw [← hW1]; exact (HB0.out.trans (hb1.mono HB0.out.size)).alloc (by have := HB0.out.size; have := hb1.size; omega) _
  have HW1 := hidden hW1
  have HB1 := hidden hB1
  have hN1 := HN.out.below hB1
  have ct := hN1.track hkk
  rw [hx] at ct
  simp only [tpv] at ct
  clear hN1
  clear hb1 hW1 hB1 c0 CA
  go_upto_region 4 with fail
  first | rw [HW1.out] | skip
  go_wp2_with fail
  refine (CT.out _).mono ?_
  rintro e w2 ⟨rfl, rfl⟩
  go_wp2_with fail
  go_ret
  exact ⟨rfl, HB1.out⟩
set_option maxHeartbeats 1000000 in
theorem send_state (n b : Nat) (o : Nat → Tg) (P : NP) (N : Nd) (tk now s t l q : Int) (st : Bool) (bv : Value) (w : World) (hN : NAt w o n b P N) (hnow : GM.tf N.nw now = 0) (hT : okT tk = true) {t' : Tr} (hx : N.at tk = some t') (hpa : t'.pa ≠ -1) :
    Calls Tryz.prog 45 #[.pointer (some ⟨b, 0, none⟩), .int .i64 tk, .agg #[.int .i64 s, .int .i64 t, .int .i64 l, .int .i64 q, .bool st, bv], .int .i64 now] w fun e w' => e = .returned (errv 6) ∧ Below w.heap.size w w' := by
  obtain ⟨W0, hW0⟩ : ∃ W0, w.alloc (.cells #[.int .i64 s, .int .i64 t, .int .i64 l, .int .i64 q, .bool st, bv] 38) = W0 := ⟨_, rfl⟩
  have hB0 : Below w.heap.size w W0 := by rw [← hW0]; exact (Below.refl _ _).alloc (Nat.le_refl _) _
  have CT := hidden (isTrack_calls tk)
  rw [hT] at CT
  have CA := hidden (Gaps.at_calls N.nw now W0)
  rw [if_pos hnow, hnow] at CA
  obtain ⟨k, hkk, hk1, hk2⟩ : ∃ k : Nat, k < 8 ∧ tk = (k : Int) + 1 ∧ (tk - 1).toNat = k := ⟨(tk - 1).toNat, by simp [okT] at hT; omega, by simp [okT] at hT; omega, rfl⟩
  have hk3 : wrap64 (tk - 1) = (k : Int) := by unfold wrap64; omega
  have hk4 : (k : Int) < 8 := by omega
  unfold Nd.at at hx
  rw [hk2] at hx
  have HN := hidden hN
  have HB0 := hidden hB0
  have HW := hidden hW0
  have c0 := (hN.below hB0).cells.1
  obtain ⟨nw, hnw⟩ : ∃ nw, N.nw = nw := ⟨_, rfl⟩
  rw [hnw] at c0 CA
  clear hN hT hnow hk1 hk2 hB0 hW0 hnw
  go_enter Tryz.func45, Tryz.ntmps45
  go_upto_region 1 with fail
  rw [HW.out]
  go_wp2_with fail
  refine CA.out.mono ?_
  rintro e w1 ⟨rfl, hb1⟩
  rw [show Gaps.errv 0 = Value.nilIface from rfl]
  obtain ⟨W1, hW1⟩ : ∃ W1, w1.alloc (.cells #[.int .i64 now] 89) = W1 := ⟨_, rfl⟩
  have hB1 : Below w.heap.size w W1 := by rw [← hW1]; exact (HB0.out.trans (hb1.mono HB0.out.size)).alloc (by have := HB0.out.size; have := hb1.size; omega) _
  have HW1 := hidden hW1
  have HB1 := hidden hB1
  have hN1 := HN.out.below hB1
  have ct := hN1.track hkk
  have bx := (hN1.trs k hkk t' hx).1.box
  rw [hx] at ct
  simp only [tpv] at ct
  have cp : W1.cell? ⟨(P.tp k).p, 2, none⟩ = some (.int .i64 t'.pa) := by simp [World.cell?, bx]
  obtain ⟨pp, hpp⟩ : ∃ pp, (P.tp k).p = pp := ⟨_, rfl⟩
  obtain ⟨pa, hpe⟩ : ∃ pa, t'.pa = pa := ⟨_, rfl⟩
  rw [hpp] at ct cp
  rw [hpe] at cp hpa
  have hd : (pa != -1) = true := by simpa using hpa
  clear hN1 bx hpp hpe hpa
  clear hb1 hW1 hB1 c0 CA
  go_upto_region 4 with fail
  first | rw [HW1.out] | skip
  go_wp2_with fail
  refine (CT.out _).mono ?_
  rintro e w2 ⟨rfl, rfl⟩
  go_wp2_with fail
  go_ret
  exact ⟨rfl, HB1.out⟩
end Go.Proofs.YtpiamlgmadnepaaGreat.ND

