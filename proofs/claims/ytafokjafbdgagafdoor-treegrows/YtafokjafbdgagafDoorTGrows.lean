/-
  The walk of the Go function TreeGrows: it returns true at any edges, any root, any parents and any node. It changes nothing that was there. Its condition: package errors' variable errorType is as its text lays it.
-/
import Derived.Test.YtafokjafbdgagafDoorRTreeC
namespace Go.Proofs.YtafokjafbdgagafDoor.Grows
open Go.ChangeShapes Go.WideShapes Go.ChangeAt Go.RowKit Go.Proofs.YtafokjafbdgagafDoor.Mem Go.Proofs.YtafokjafbdgagafDoor.TM Go.Proofs.YtafokjafbdgagafDoor.Tree Go.Proofs.YtafokjafbdgagafDoor.RTree
set_option linter.unusedVariables false

theorem lt_of_cell {w : World} {v : Value} (h : w.cell? ⟨0, 0, none⟩ = some v) : 0 < w.heap.size := by
  rcases Nat.eq_zero_or_pos w.heap.size with h0 | h'
  · simp [World.cell?, h0] at h
  · exact h'
/-- what Build and the reference give -/
def BR (N r : Int) (L : List Ed) (p d : List Int) : Prop := (lf N L r ≠ 0 → p = [] ∧ d = []) ∧ (lf N L r = 0 → IsDist L N.toNat r.toNat d ∧ IsPars L d N.toNat p)
theorem br_of {N r : Int} {L : List Ed} {p d : List Int} (h : BP N r L p d) : BR N r L p d := ⟨h.1, fun q => ⟨(h.2 q).1, (h.2 q).2.1⟩⟩
theorem BR.uniq {N r : Int} {L : List Ed} {p d p' d' : List Int} (h : BR N r L p d) (g : BR N r L p' d') : p' = p ∧ d' = d := by
  by_cases h0 : lf N L r = 0
  · obtain ⟨a1, a2⟩ := h.2 h0
    obtain ⟨b1, b2⟩ := g.2 h0
    obtain rfl := b1.uniq a1
    exact ⟨b2.uniq a2, rfl⟩
  · obtain ⟨rfl, rfl⟩ := h.1 h0
    obtain ⟨rfl, rfl⟩ := g.1 h0
    exact ⟨rfl, rfl⟩
/-- a row that was made -/
def Own (w wr : World) (v : Value) (K : List Int) : Prop := wr.ownsRow w.heap.size 3 1 v K.length (ic K)
theorem Own.below {w wr w' : World} {v : Value} {K : List Int} (h : Own w wr v K) (hb : Below wr.heap.size wr w') : Own w w' v K := own_below h hb
theorem own_lift {w wr : World} {v : Value} {K : List Int} {n : Nat} (hB : Below w.heap.size w wr) {w' : World} (h : w'.ownsRow wr.heap.size 3 1 v n (ic K)) : Own w w' v K := by
  have hl := own_ln h
  subst hl
  exact own_base h hB.size
/-- two rows of the same are the same -/
theorem same_rows {w wr : World} {v v' : Value} {K : List Int} (h : Own w wr v K) (h' : Own w wr v' K) (hK : K.length ≤ 16) :
    Calls Tryd.prog 22 #[v, v'] wr fun e w' => e = .returned (.bool true) ∧ Below wr.heap.size wr w' := by
  obtain ⟨a, c, rfl, hI, _, _, _⟩ := own_ints h (by omega)
  obtain ⟨a', c', rfl, hI', _, _, _⟩ := own_ints h' (by omega)
  exact ints_same a a' K.length c c' K wr hI hI'
/-- how far what Cost gives is found -/
def CRel (L : List Ed) (P : List Int) (i : Nat) (ev sv : Int) : Prop := (ev = 0 ∧ sv = sm L P i ∧ lk L P i = false) ∨ (ev = 5 ∧ sv = 0 ∧ lk L P P.length = true)
theorem cf_err1 {N : Int} {L : List Ed} {P : List Int} (h : ef N L ≠ 0) : cf N L P = ef N L ∧ cv N L P = 0 := by
  have e : cf N L P = ef N L := by unfold cf; rw [if_pos h]
  exact ⟨e, by unfold cv; rw [if_neg (by omega)]⟩
theorem cf_err2 {N : Int} {L : List Ed} {P : List Int} (h : ef N L = 0) (h2 : pf P ≠ 0) : cf N L P = pf P ∧ cv N L P = 0 := by
  have e : cf N L P = pf P := by unfold cf; rw [if_neg (by simpa using h), if_pos h2]
  exact ⟨e, by unfold cv; rw [if_neg (by omega)]⟩
theorem cf_err3 {N : Int} {L : List Ed} {P : List Int} (h : ef N L = 0) (h2 : pf P = 0) (h3 : (P.length : Int) ≠ N) : cf N L P = 3 ∧ cv N L P = 0 := by
  have e : cf N L P = 3 := by unfold cf; rw [if_neg (by simpa using h), if_neg (by simpa using h2), if_pos h3]
  exact ⟨e, by unfold cv; rw [if_neg (by omega)]⟩
theorem cf_rel {N : Int} {L : List Ed} {P : List Int} {ev sv : Int} (h : ef N L = 0) (h2 : pf P = 0) (h3 : (P.length : Int) = N) (hc : CRel L P P.length ev sv) : ev = (cf N L P : Int) ∧ sv = cv N L P := by
  have e : cf N L P = if lk L P P.length = true then 5 else 0 := by unfold cf; rw [if_neg (by simpa using h), if_neg (by simpa using h2), if_neg (by simpa using h3)]
  rcases hc with ⟨rfl, rfl, q⟩ | ⟨rfl, rfl, q⟩
  · rw [q, if_neg (by simp)] at e
    exact ⟨by rw [e]; rfl, by unfold cv; rw [if_pos e]⟩
  · rw [if_pos q] at e
    exact ⟨by rw [e]; rfl, by unfold cv; rw [if_neg (by omega)]⟩
set_option maxHeartbeats 32000000 in
set_option maxRecDepth 100000 in
theorem walk_grows (N r x : Int) (a : Option Addr) (n cap : Nat) (L : List Ed) (ap : Option Addr) (np capp : Nat) (P : List Int) (w : World)
    (hg : w.cell? ⟨0, 0, none⟩ = some (.iface 128 (.agg #[.pointer (some ⟨1, 25, none⟩)]))) (h : EArg w a n L) (hnc : n ≤ cap) (hp : IArg w ap np P) :
    Calls Tryd.prog 5 #[.int .i64 N, .slice a n cap, .int .i64 r, .slice ap np capp, .int .i64 x] w fun e w' => e = .returned (.bool true) ∧ Below w.heap.size w w' := by
  have HL0 := lt_of_cell hg
  have HG : Hid (∀ W, Below w.heap.size w W → W.cell? ⟨0, 0, none⟩ = some (.iface 128 (.agg #[.pointer (some ⟨1, 25, none⟩)]))) := fun W hW => (hW.cell (p := ⟨0, 0, none⟩) HL0).trans hg
  have HA := hidden h
  have HP := hidden hp
  have hl := h.2.1
  have hn := h.2.2
  have hpl := hp.2.1
  have hpn := hp.2.2
  have HW0 : Hid (Below w.heap.size w w) := Below.refl _ _
  clear h hp hg HL0
  go_enter Tryd.func5, Tryd.ntmps5
  go_wp2_with fail
  refine (redges_calls N a n cap L _ (HA.out.below HW0.out)).mono ?_
  rintro e w1 ⟨rfl, hb1⟩
  have HW1 : Hid (Below w.heap.size w w1) := HW0.out.trans (hb1.mono HW0.out.size)
  clear hb1 HW0
  go_wp2_with fail
  refine (check_calls N a n cap L _ (HA.out.below HW1.out) hnc).mono ?_
  rintro e w2 ⟨rfl, hb2⟩
  have HW2 : Hid (Below w.heap.size w w2) := HW1.out.trans (hb2.mono HW1.out.size)
  clear hb2 HW1
  go_wp2_with fail
  refine (told_f (ef N L) _ (ef_le N L) (HG.out _ HW2.out)).mono ?_
  rintro e w3 ⟨rfl, hb3⟩
  have HW3 : Hid (Below w.heap.size w w3) := HW2.out.trans (hb3.mono HW2.out.size)
  clear hb3 HW2
  obtain ⟨tb, htb⟩ : ∃ z, (decide (ef N L = 0) && !isn N r) = z := ⟨_, rfl⟩
  have HTB := hidden htb
  clear htb
  go_upto_region 5 with fail
  go_cut [60] from 50 to 60 (fun s wx => s = .bool tb ∧ w3 = wx)
  case first =>
    by_cases h0 : ef N L = 0
    · have e0 : ((ef N L : Int) == 0) = true := by simp [h0]
      by_cases h1 : r < 0
      · have e1 : decide (r < 0) = true := by simpa using h1
        have HT1 : Hid (true = tb) := by rw [← HTB.out]; exact hidden (by simp [h0, isn]; omega)
        clear h0 h1
        go_wp2_with fail
        go_meet
        exact ⟨by rw [← HT1.out], rfl⟩
      · have e1 : decide (r < 0) = false := by simpa using h1
        by_cases h2 : N ≤ r
        · have e2 : decide (N ≤ r) = true := by simpa using h2
          have HT1 : Hid (true = tb) := by rw [← HTB.out]; exact hidden (by simp [h0, isn]; omega)
          clear h0 h1 h2
          go_wp2_with fail
          go_meet
          exact ⟨by rw [← HT1.out], rfl⟩
        · have e2 : decide (N ≤ r) = false := by simpa using h2
          have HT1 : Hid (false = tb) := by rw [← HTB.out]; exact hidden (by simp [h0, isn]; omega)
          clear h0 h1 h2
          go_wp2_with fail
          go_meet
          exact ⟨by rw [← HT1.out], rfl⟩
    · have e0 : ((ef N L : Int) == 0) = false := beq_eq_false_iff_ne.2 (by omega)
      have HT1 : Hid (false = tb) := by rw [← HTB.out]; exact hidden (by simp [h0])
      clear h0
      go_wp2_with fail
      go_meet
      exact ⟨by rw [← HT1.out], rfl⟩
  case rest =>
  obtain ⟨rfl, rfl⟩ := hcut
  go_upto_if 60 with fail
  go_cut [15] from 61 to 61 (fun s wx => s = .int .i64 (lf N L r : Int) ∧ w3 = wx)
  case first =>
    cases tb with
    | true =>
      have HLF : Hid (lf N L r = 1) := by
        have := HTB.out
        simp only [Bool.and_eq_true, decide_eq_true_eq, Bool.not_eq_true'] at this
        unfold Hid lf
        rw [if_neg (by simpa using this.1), if_pos this.2]
      go_wp2_with fail
      go_meet
      exact ⟨by rw [HLF.out]; rfl, rfl⟩
    | false =>
      have HLF : Hid (lf N L r = ef N L) := by
        have := HTB.out
        unfold Hid lf
        by_cases h0 : ef N L = 0
        · rw [h0] at this ⊢
          simp only [decide_true, Bool.true_and, Bool.not_eq_false'] at this
          rw [if_neg (by simp), this, if_neg (by simp)]
        · rw [if_pos h0]
      go_wp2_with fail
      go_meet
      exact ⟨by rw [HLF.out], rfl⟩
  case rest =>
  obtain ⟨rfl, rfl⟩ := hcut
  clear HTB
  obtain ⟨kb, hkb⟩ : ∃ z, ((lf N L r : Int) == 0) = z := ⟨_, rfl⟩
  have HKB := hidden hkb
  go_upto_if 62 with fail
  clear hkb
  go_cut [13, 14] from 63 to 71 (fun s t wx => ∃ dl pl, Hid (Below w.heap.size w wx) ∧ Hid (Own w wx s dl) ∧ Hid (Own w wx t pl) ∧ Hid (BR N r L pl dl))
  case first =>
    by_cases h0 : lf N L r = 0
    · obtain rfl : kb = true := by rw [← HKB.out]; simp [h0]
      obtain ⟨m, root, rfl, rfl, hr, hF⟩ := lf_zero h0
      have HF := hidden hF
      have HBR : Hid (∀ pl dl, IsDist L m root dl → IsPars L dl m pl → BR (m : Int) (root : Int) L pl dl) := fun pl dl h1 h2 => ⟨fun q => absurd h0 q, fun _ => ⟨by simpa using h1, by simpa using h2⟩⟩
      have C1 := hidden (rdist_calls a n cap L m root w3 (HA.out.below HW3.out) hF hr)
      clear hF h0
      go_wp2_with fail
      refine C1.out.mono ?_
      rintro e w4 ⟨gd, cd, dl, rfl, hS, hD, hbd⟩
      have HW4 : Hid (Below w.heap.size w w4) := HW3.out.trans (hS.bel.mono HW3.out.size)
      have hdl := hD.len
      have HO4 : Hid (Own w w4 (.slice (some ⟨gd, 0, none⟩) m cd) dl) := own_lift HW3.out hS.own
      obtain ⟨ad, c', ead, hI, _, _, _⟩ := own_ints hS.own (by have := HF.out.hi; omega)
      simp only [Value.slice.injEq] at ead
      obtain ⟨rfl, _, rfl⟩ := ead
      have C2 := hidden (rparents_calls a n cap L m root (some ⟨gd, 0, none⟩) cd dl w4 (HA.out.below HW4.out) hI HF.out hr hD hbd)
      have HDD := hidden hD
      clear hS hD hbd hI C1 hdl
      go_wp2_with fail
      refine C2.out.mono ?_
      rintro e w5 ⟨v, pl, rfl, hS, hP⟩
      have HW5 : Hid (Below w.heap.size w w5) := HW4.out.trans (hS.below.mono HW4.out.size)
      have HO5 : Hid (Own w w5 (.slice (some ⟨gd, 0, none⟩) m cd) dl) := HO4.out.below hS.below
      have HP5 : Hid (Own w w5 v pl) := own_lift HW4.out hS.own
      have HBB := hidden (HBR.out pl dl HDD.out hP)
      clear hS hP C2
      go_wp2_with fail
      go_meet
      exact ⟨dl, pl, HW5, HO5, HP5, HBB⟩
    · obtain rfl : kb = false := by rw [← HKB.out]; exact beq_eq_false_iff_ne.2 (by omega)
      have HBB : Hid (BR N r L [] []) := ⟨fun _ => ⟨rfl, rfl⟩, fun q => absurd q h0⟩
      clear h0
      go_wp2_with fail
      go_meet
      exact ⟨[], [], HW3, World.ownsRow_nil _ _ _ _, World.ownsRow_nil _ _ _ _, HBB⟩
  case rest =>
  obtain ⟨dl, pl0, HW4, Hd4, Hp4, HBR⟩ := hcut
  clear HW3 HKB
  obtain ⟨w4, hwz⟩ : ∃ z, z = wc := ⟨_, rfl⟩
  subst hwz
  generalize hsd : (u13 : Value) = vd0 at *
  generalize hsp : (u14 : Value) = vp0 at *
  go_wp2_with fail
  refine (build_calls N r a n cap L _ (HA.out.below HW4.out) hnc).mono ?_
  rintro e w5 ⟨vp, vd, P1, D1, rfl, hQ⟩
  obtain hb5 := hQ.bel
  have HW5 : Hid (Below w.heap.size w w5) := HW4.out.trans (hb5.mono HW4.out.size)
  have Hd5 := hidden (Hd4.out.below hb5)
  have Hp5 := hidden (Hp4.out.below hb5)
  have Hx5 := hidden (own_lift HW4.out hQ.own1)
  have Hy5 := hidden (own_lift HW4.out hQ.own2)
  clear hb5 HW4 Hd4 Hp4
  have hle := hQ.bp.len
  obtain ⟨rfl, rfl⟩ := (br_of hQ.bp).uniq HBR.out
  clear hQ
  go_wp2_with fail
  refine (told_f (lf N L r) _ (lf_le N L r) (HG.out _ HW5.out)).mono ?_
  rintro e w6 ⟨rfl, hb6⟩
  have HW6 : Hid (Below w.heap.size w w6) := HW5.out.trans (hb6.mono HW5.out.size)
  have Hd6 := hidden (Hd5.out.below hb6)
  have Hp6 := hidden (Hp5.out.below hb6)
  have Hx6 := hidden (Hx5.out.below hb6)
  have Hy6 := hidden (Hy5.out.below hb6)
  clear hb6 HW5 Hd5 Hp5 Hx5 Hy5
  go_wp2_with fail
  refine (same_rows Hx6.out Hp6.out hle.1).mono ?_
  rintro e w7 ⟨rfl, hb7⟩
  have HW7 : Hid (Below w.heap.size w w7) := HW6.out.trans (hb7.mono HW6.out.size)
  have Hd7 := hidden (Hd6.out.below hb7)
  have Hy7 := hidden (Hy6.out.below hb7)
  clear hb7 HW6 Hd6 Hp6 Hx6 Hy6
  go_wp2_with fail
  refine (same_rows Hy7.out Hd7.out hle.2).mono ?_
  rintro e w8 ⟨rfl, hb8⟩
  have HW8 : Hid (Below w.heap.size w w8) := HW7.out.trans (hb8.mono HW7.out.size)
  clear hb8 HW7 Hd7 Hy7
  go_wp2_with fail
  refine (rtree_calls ap np capp P _ (HP.out.below HW8.out)).mono ?_
  rintro e w9 ⟨rfl, rfl⟩
  obtain ⟨wq, hwz⟩ : ∃ z, z = w9 := ⟨_, rfl⟩
  subst hwz
  obtain ⟨tb, htb⟩ : ∃ z, (decide (pf P = 0) && !isn np x) = z := ⟨_, rfl⟩
  have HTB := hidden htb
  clear htb hle HBR
  go_upto_region 18 with fail
  go_cut [117] from 106 to 117 (fun s wx => s = .bool tb ∧ wq = wx)
  case first =>
    by_cases h0 : pf P = 0
    · have e0 : ((pf P : Int) == 0) = true := by simp [h0]
      by_cases h1 : x < 0
      · have e1 : decide (x < 0) = true := by simpa using h1
        have HT1 : Hid (true = tb) := by rw [← HTB.out]; exact hidden (by simp [h0, isn]; omega)
        clear h0 h1
        go_wp2_with fail
        go_meet
        exact ⟨by rw [← HT1.out], rfl⟩
      · have e1 : decide (x < 0) = false := by simpa using h1
        by_cases h2 : (np : Int) ≤ x
        · have e2 : decide ((np : Int) ≤ x) = true := by simpa using h2
          have HT1 : Hid (true = tb) := by rw [← HTB.out]; exact hidden (by simp [h0, isn]; omega)
          clear h0 h1 h2
          go_wp2_with fail
          go_meet
          exact ⟨by rw [← HT1.out], rfl⟩
        · have e2 : decide ((np : Int) ≤ x) = false := by simpa using h2
          have HT1 : Hid (false = tb) := by rw [← HTB.out]; exact hidden (by simp [h0, isn]; omega)
          clear h0 h1 h2
          go_wp2_with fail
          go_meet
          exact ⟨by rw [← HT1.out], rfl⟩
    · have e0 : ((pf P : Int) == 0) = false := beq_eq_false_iff_ne.2 (by omega)
      have HT1 : Hid (false = tb) := by rw [← HTB.out]; exact hidden (by simp [h0])
      clear h0
      go_wp2_with fail
      go_meet
      exact ⟨by rw [← HT1.out], rfl⟩
  case rest =>
  obtain ⟨rfl, rfl⟩ := hcut
  go_upto_if 117 with fail
  go_cut [23] from 118 to 118 (fun s wx => s = .int .i64 (bf P x : Int) ∧ wq = wx)
  case first =>
    cases tb with
    | true =>
      have HLF : Hid (bf P x = 1) := by
        have := HTB.out
        simp only [Bool.and_eq_true, decide_eq_true_eq, Bool.not_eq_true'] at this
        unfold Hid bf
        rw [if_neg (by simpa using this.1), hpl, if_pos this.2]
      go_wp2_with fail
      go_meet
      exact ⟨by rw [HLF.out]; rfl, rfl⟩
    | false =>
      have HLF : Hid (bf P x = pf P) := by
        have := HTB.out
        unfold Hid bf
        by_cases h0 : pf P = 0
        · rw [h0] at this ⊢
          simp only [decide_true, Bool.true_and, Bool.not_eq_false'] at this
          rw [if_neg (by simp), hpl, this, if_neg (by simp)]
        · rw [if_pos h0]
      go_wp2_with fail
      go_meet
      exact ⟨by rw [HLF.out], rfl⟩
  case rest =>
  obtain ⟨rfl, rfl⟩ := hcut
  clear HTB
  obtain ⟨kb, hkb⟩ : ∃ z, ((bf P x : Int) == 0) = z := ⟨_, rfl⟩
  have HKB := hidden hkb
  go_upto_if 119 with fail
  clear hkb
  go_cut [24, 25] from 120 to 147 (fun s t wx => Hid (Below w.heap.size w wx) ∧ Hid (Own w wx s (kl P x)) ∧ Hid (Own w wx t (pl P x)))
  case first =>
    by_cases h0 : bf P x = 0
    · obtain rfl : kb = true := by rw [← HKB.out]; simp [h0]
      obtain ⟨hOk, node, rfl, hnode⟩ := bf_zero h0
      have h16 : np ≤ 16 := by have := hOk.len; omega
      have hkl : kl P (node : Int) = kd P (node : Int) np := by unfold kl; rw [if_pos h0, hpl]
      have hpll : pl P (node : Int) = (wu P np (node : Int)).reverse := by unfold pl; rw [if_pos h0, hpl]
      have HKL := hidden hkl
      have HR := hidden hOk.rng
      have HE : Hid (anc P np (node : Int) = -1) := by have := hOk.ends node hnode; rw [hpl] at this; exact this
      have HPL := hidden hpll
      clear hOk hkl hpll h0
      obtain ⟨i0, hii, hz0, hz1, hz2⟩ := info_parts info3
      have HN0 : Hid (Below w.heap.size w wq ∧ Own w wq (.slice none 0 0) (kd P (node : Int) 0)) := ⟨HW8.out, World.ownsRow_nil _ _ _ _⟩
      go_wp2_with fail
      go_loopg [24, 26] np (fun g u y wr => ∃ (i : Nat) (v : Value), i + g = np ∧ v = u ∧ y = .int .i64 (i : Int) ∧ Hid (Below w.heap.size w wr ∧ Own w wr v (kd P (node : Int) i)))
      case atStart => exact ⟨0, _, by omega, rfl, rfl, HN0⟩
      case round =>
        obtain ⟨i, v, hig, rfl, rfl, HS⟩ := hrel
        clear HN0
        by_cases hi : i < np
        · have hiz : (i : Int) < (np : Int) := by omega
          obtain ⟨b, o, rfl, hcs⟩ := (HP.out.below HS.out.1).at (by omega)
          have c0 := hcs i hi
          have hst := kd_step P (node : Int) i
          have hlen := kd_len P (node : Int) i
          obtain ⟨m, hm⟩ : ∃ m, dg P i = m := ⟨_, rfl⟩
          rw [hm] at c0 hst
          clear hm hcs
          by_cases he : m = (node : Int)
          · subst he
            rw [if_pos rfl] at hst
            have HT := hidden hst
            clear hst
            go_wp2_with (at_builtin; refine wpList_append_own _ rfl _ _ 54 rfl w.heap.size 3 i0 _ 1 8 Tryd.underlying54 hii hz0 hz1 hz2 rfl (by decide) _ (kd P (node : Int) i).length (ic (kd P (node : Int) i)) rfl (World.ownsRow.alloc HS.out.2 _) ⟨wr.heap.size, 0, none⟩ 1 1 [.int .i64 (i : Int)] rfl rfl ?cc ?one ?b1 ?b2 ?b3 ?next)
            all_goals try exact lit1 _
            case one => simp [Value.oneCell']
            case b1 => unfold maxLen; omega
            case b2 => omega
            case b3 => have := HS.out.1.size; simp; omega
            case next =>
            intro v3 w' hown hgrow _
            have HSn : Hid (Below w.heap.size w w' ∧ Own w w' v3 (kd P (node : Int) (i + 1))) := by
              have hs := HS.out.1.size
              refine ⟨(HS.out.1.alloc hs _).grown hgrow (by simp; omega) (fun j hj => (World.ownsRow.lt HS.out.2 j hj).1), ?_⟩
              unfold Own
              rw [HT.out, List.length_append, ic_app]
              exact hown
            clear hown hgrow
            go_wp2_with fail
            go_roundg (np - (i + 1))
            case measure => omega
            case rel => exact ⟨i + 1, v3, by omega, rfl, by go_num, HSn⟩
          · rw [if_neg he] at hst
            have he' : (m == (node : Int)) = false := by simpa using he
            have HSn : Hid (Below w.heap.size w wr ∧ Own w wr v (kd P (node : Int) (i + 1))) := by rw [hst]; exact HS
            clear hst he
            go_wp2_with fail
            go_roundg (np - (i + 1))
            case measure => omega
            case rel => exact ⟨i + 1, v, by omega, rfl, by go_num, HSn⟩
        · have hiz : ¬ (i : Int) < (np : Int) := by omega
          obtain rfl : np = i := by omega
          obtain ⟨V, hV⟩ : ∃ V, wu P np (node : Int) = V := ⟨_, rfl⟩
          have hVl : V.length ≤ np := by rw [← hV]; exact wu_le _ _ _
          have HK0 : Hid ([] ++ wu P np (node : Int) = V) := hV
          have HPV : Hid (pl P (node : Int) = V.reverse) := by rw [HPL.out, hV]; exact hidden rfl
          clear hV HPL
          have HQ0 : Hid (Below w.heap.size w wr ∧ Own w wr v (kd P (node : Int) np) ∧ Own w wr (.slice none 0 0) (List.reverse [])) := ⟨HS.out.1, HS.out.2, World.ownsRow_nil _ _ _ _⟩
          clear HS
          go_wp2_with fail
          go_loopg [25, 27] np (fun g u y wr => ∃ (k : Nat) (t : Value) (K : List Int) (z : Int), k ≤ g ∧ t = u ∧ y = .int .i64 z ∧ K.length ≤ np ∧ (z = -1 ∨ ∃ q : Nat, z = (q : Int) ∧ q < np) ∧ Hid (anc P k z = -1) ∧ Hid (K ++ wu P k z = V) ∧ Hid (Below w.heap.size w wr ∧ Own w wr v (kd P (node : Int) np) ∧ Own w wr t K.reverse))
          case atStart => exact ⟨np, _, [], (node : Int), by omega, rfl, rfl, by simp, .inr ⟨node, rfl, by omega⟩, HE, HK0, HQ0⟩
          case round =>
            obtain ⟨k, t, K, z, hkg, rfl, rfl, hKl, hz, HZ, HK, HQ⟩ := hrel
            clear HQ0
            rcases hz with rfl | ⟨q, rfl, hq⟩
            · have hk := HK.out
              rw [wu_neg, List.append_nil] at hk
              subst hk
              go_wp2_with fail
              go_meet
              exact ⟨hidden HQ.out.1, by rw [HKL.out]; exact hidden HQ.out.2.1, by rw [HPV.out]; exact hidden HQ.out.2.2⟩
            · have hne : decide (0 ≤ (q : Int)) = true := by simp
              obtain ⟨m, rfl, e2, e3⟩ := wu_step (by omega) HZ.out
              have hk := HK.out
              rw [e2] at hk
              have hr := HR.out q (by omega)
              rw [pa_nat] at hk e3
              have hKl2 : K.length + 1 ≤ np := by
                rw [← hk, List.length_append, List.length_cons] at hVl; omega
              have HC : Hid (∀ w', Below w.heap.size w w' → ∃ b o, ap = some ⟨b, o, none⟩ ∧ w'.cell? ⟨b, o + q, none⟩ = some (.int .i64 (dg P q))) := fun w' hb => by
                obtain ⟨b2, o2, e, hc⟩ := (HP.out.below hb).at (by omega)
                exact ⟨b2, o2, e, hc q hq⟩
              obtain ⟨p, hpq⟩ : ∃ p, dg P q = p := ⟨_, rfl⟩
              rw [hpq] at hk e3 hr HC
              clear e2 hpq
              have hK1 : (K ++ [(q : Int)]) ++ wu P m p = V := by rw [List.append_assoc]; exact hk
              have HK1 := hidden hK1
              have HZ1 := hidden e3
              clear hk hK1 e3 HK HZ
              obtain ⟨at_, ct, rfl, hIt, hnt, _, hbt⟩ := own_ints HQ.out.2.2 (by simp; omega)
              have hrl : K.reverse.length = K.length := List.length_reverse
              have hlt : (.slice at_ K.reverse.length ct : Value) = .slice at_ K.length ct := by rw [hrl]
              have HCL : Hid (∀ ad, at_ = some ad → ∀ j u, (ic K.reverse)[j]? = some u → (wr.alloc (.cells #[.int .i64 (q : Int)] 3)).cell? (ad.add j) = some u) := fun ad he j u hu => by
                obtain ⟨g, rfl, _, hg⟩ := hbt ad he
                have := World.ownsRow.cells (World.ownsRow.alloc HQ.out.2.2 (.cells #[.int .i64 (q : Int)] 3)) (g := g) (by rw [he]; rfl) j u hu
                exact this
              have HLT : Hid ((wr.alloc (.cells #[.int .i64 (q : Int)] 3)).ownsRow w.heap.size 3 1 (.slice (some ⟨wr.heap.size, 0, none⟩) 1 1) 1 [.int .i64 (q : Int)]) := by
                have := RowI.own (w := wr.alloc (.cells #[.int .i64 (q : Int)] 3)) (g := wr.heap.size) (base := w.heap.size) (L := [(q : Int)]) (heap_alloc_new wr _) HQ.out.1.size (by simp)
                exact this
              clear hIt hbt hlt
              go_wp2_with (at_builtin; refine append_any rfl _ _ 54 rfl w.heap.size 3 i0 _ 1 8 Tryd.underlying54 hii hz0 hz1 hz2 rfl (by decide) (.slice (some ⟨wr.heap.size, 0, none⟩) 1 1) 1 [.int .i64 (q : Int)] rfl HLT.out at_ K.reverse.length ct (ic K.reverse) rfl (by rw [ic_len, Nat.mul_one]) hnt HCL.out ?one (by unfold maxLen; omega) (by omega) ?b3 ?next)
              case one => intro u hu; simp [ic] at hu; obtain ⟨_, _, rfl⟩ := hu; rfl
              case b3 => have := HQ.out.1.size; simp; omega
              case next =>
              intro v3 w' hown hgrow
              have HBn : Hid (Below w.heap.size w w') := by
                have hs := HQ.out.1.size
                exact (HQ.out.1.alloc hs _).grown hgrow (by simp; omega) (fun j hj => by simp [Value.ownBlock] at hj; omega)
              have HQn : Hid (Below w.heap.size w w' ∧ Own w w' v (kd P (node : Int) np) ∧ Own w w' v3 (K ++ [(q : Int)]).reverse) := by
                refine ⟨HBn.out, ?_, ?_⟩
                · refine World.ownsRow.kept (World.ownsRow.alloc HQ.out.2.1 _) hgrow ?_
                  right
                  intro e
                  simp [Value.ownBlock] at e
                  have := (World.ownsRow.lt HQ.out.2.1 wr.heap.size e).2
                  omega
                · unfold Own
                  rw [List.reverse_append, List.reverse_singleton, List.singleton_append, List.length_cons, Nat.add_comm, List.length_reverse]
                  exact hown
              obtain ⟨b, o, rfl, hc0⟩ := HC.out w' HBn.out
              have hqz : (q : Int) < (np : Int) := by omega
              clear hown hgrow
              go_wp2_with fail
              go_roundg m
              case measure => omega
              case rel => exact ⟨m, v3, _, p, by omega, rfl, rfl, by simp; omega, by rcases Int.lt_or_le p 0 with h | h; (· exact .inl (by omega)); (· exact .inr ⟨p.toNat, by omega, by omega⟩), HZ1, HK1, HQn⟩
    · obtain rfl : kb = false := by rw [← HKB.out]; exact beq_eq_false_iff_ne.2 (by omega)
      have hkl : kl P x = [] := by unfold kl; rw [if_neg h0]
      have hpll : pl P x = [] := by unfold pl; rw [if_neg h0]
      have HKL := hidden hkl
      have HPL := hidden hpll
      clear hkl hpll h0
      go_wp2_with fail
      go_meet
      exact ⟨HW8, by rw [HKL.out]; exact World.ownsRow_nil _ _ _ _, by rw [HPL.out]; exact World.ownsRow_nil _ _ _ _⟩
  case rest =>
  obtain ⟨HW10, Ha10, Hb10⟩ := hcut
  clear HW8 HKB
  obtain ⟨w10, hwz⟩ : ∃ z, z = wc := ⟨_, rfl⟩
  subst hwz
  have hkl16 := kl_len P x
  have hpl16 := pl_len P x
  go_wp2_with fail
  refine (kids_calls ap np capp P x _ (HP.out.below HW10.out)).mono ?_
  rintro e w11 ⟨vk, rfl, hk, hb11⟩
  have HW11 : Hid (Below w.heap.size w w11) := HW10.out.trans (hb11.mono HW10.out.size)
  have Ha11 := hidden (Ha10.out.below hb11)
  have Hb11 := hidden (Hb10.out.below hb11)
  have Hk11 := hidden (own_lift HW10.out hk)
  clear hb11 HW10 Ha10 Hb10 hk
  go_wp2_with fail
  refine (told_f (bf P x) _ (bf_le P x) (HG.out _ HW11.out)).mono ?_
  rintro e w12 ⟨rfl, hb12⟩
  have HW12 : Hid (Below w.heap.size w w12) := HW11.out.trans (hb12.mono HW11.out.size)
  have Ha12 := hidden (Ha11.out.below hb12)
  have Hb12 := hidden (Hb11.out.below hb12)
  have Hk12 := hidden (Hk11.out.below hb12)
  clear hb12 HW11 Ha11 Hb11 Hk11
  go_wp2_with fail
  refine (path_calls ap np capp P x _ (HP.out.below HW12.out)).mono ?_
  rintro e w13 ⟨vq, rfl, hk, hb13⟩
  have HW13 : Hid (Below w.heap.size w w13) := HW12.out.trans (hb13.mono HW12.out.size)
  have Ha13 := hidden (Ha12.out.below hb13)
  have Hb13 := hidden (Hb12.out.below hb13)
  have Hk13 := hidden (Hk12.out.below hb13)
  have Hq13 := hidden (own_lift HW12.out hk)
  clear hb13 HW12 Ha12 Hb12 Hk12 hk
  go_wp2_with fail
  refine (told_f (bf P x) _ (bf_le P x) (HG.out _ HW13.out)).mono ?_
  rintro e w14 ⟨rfl, hb14⟩
  have HW14 : Hid (Below w.heap.size w w14) := HW13.out.trans (hb14.mono HW13.out.size)
  have Ha14 := hidden (Ha13.out.below hb14)
  have Hb14 := hidden (Hb13.out.below hb14)
  have Hk14 := hidden (Hk13.out.below hb14)
  have Hq14 := hidden (Hq13.out.below hb14)
  clear hb14 HW13 Ha13 Hb13 Hk13 Hq13
  go_wp2_with fail
  refine (same_rows Hk14.out Ha14.out hkl16).mono ?_
  rintro e w15 ⟨rfl, hb15⟩
  have HW15 : Hid (Below w.heap.size w w15) := HW14.out.trans (hb15.mono HW14.out.size)
  have Hb15 := hidden (Hb14.out.below hb15)
  have Hq15 := hidden (Hq14.out.below hb15)
  clear hb15 HW14 Ha14 Hb14 Hk14 Hq14
  go_wp2_with fail
  refine (same_rows Hq15.out Hb15.out hpl16).mono ?_
  rintro e w16 ⟨rfl, hb16⟩
  have HW16 : Hid (Below w.heap.size w w16) := HW15.out.trans (hb16.mono HW15.out.size)
  clear hb16 HW15 Hb15 Hq15
  by_cases h0 : ef N L = 0
  · have e0 : ((ef N L : Int) == 0) = true := by simp [h0]
    by_cases h1 : pf P = 0
    · have e1 : ((pf P : Int) == 0) = true := by simp [h1]
      by_cases h2 : (np : Int) = N
      · obtain ⟨hN0, hF⟩ := ef_zero.1 h0
        have hO := pf_zero.1 h1
        have HCR : Hid (∀ ev sv, CRel L P np ev sv → ev = (cf N L P : Int) ∧ sv = cv N L P) := fun ev sv hc => cf_rel h0 h1 (by rw [hpl]; exact h2) (by rw [hpl]; exact hc)
        subst h2
        simp only [Int.toNat_natCast] at hF
        have HF := hidden hF
        have hn16 := hF.hi
        have HR := hidden hO.rng
        have HC0 : Hid (CRel L P 0 (pf P : Int) 0) := .inl ⟨by rw [h1]; rfl, rfl, rfl⟩
        have e2 : ((np : Int) != (np : Int)) = false := by simp
        clear hF hO h0 h1 hN0
        go_wp2_with fail
        go_loopg [11, 35, 36] np (fun g u v t wr => ∃ (i : Nat) (ev sv : Int), i + g = np ∧ u = .int .i64 ev ∧ v = .int .i64 sv ∧ t = .int .i64 (i : Int) ∧ Hid (CRel L P i ev sv) ∧ Hid (Below w.heap.size w wr))
        case atStart => exact ⟨0, _, _, by omega, rfl, rfl, rfl, HC0, HW16⟩
        case round =>
          obtain ⟨i, ev, sv, hig, rfl, rfl, rfl, HC, HB⟩ := hrel
          clear HC0 HW16 e0 e1 e2
          by_cases hi : i < np
          · have hiz : (i : Int) < (np : Int) := by omega
            rcases HC.out with ⟨rfl, rfl, hlk⟩ | ⟨rfl, rfl, hlk⟩
            · obtain ⟨bp, op, rfl, hcs⟩ := (HP.out.below HB.out).at (by omega)
              have c0 := hcs i hi
              have HCP : Hid (∀ w', Below w.heap.size w w' → w'.cell? ⟨bp, op + i, none⟩ = some (.int .i64 (dg P i))) := fun w' hb => by
                obtain ⟨b2, o2, e, hc⟩ := (HP.out.below hb).at (by omega)
                simp only [Option.some.injEq, Addr.mk.injEq] at e
                obtain ⟨rfl, rfl, _⟩ := e
                exact hc i hi
              have hr := HR.out i (by omega)
              have hsm : sm L P (i + 1) = sm L P i + (if dg P i < 0 then 0 else cst L i (dg P i)) := rfl
              have hlk1 : lk L P (i + 1) = (lk L P i || (decide (0 ≤ dg P i) && decide (cst L i (dg P i) = 0))) := rfl
              have hsr := sm_range HF.out.ok P i
              rw [hlk, Bool.false_or] at hlk1
              clear hcs hlk HC
              by_cases hm : dg P i < 0
              · have em : decide (dg P i < 0) = true := by simpa using hm
                rw [if_pos hm] at hsm
                have HC1 : Hid (CRel L P (i + 1) 0 (sm L P i)) := .inl ⟨rfl, by omega, by rw [hlk1]; simp; omega⟩
                clear hsm hlk1 hm hr HCP
                generalize dg P i = y at *
                generalize sm L P i = s at *
                go_wp2_with fail
                go_roundg (np - (i + 1))
                case measure => omega
                case rel => exact ⟨i + 1, _, _, by omega, rfl, rfl, by go_num, HC1, HB⟩
              · have em : decide (dg P i < 0) = false := by simpa using hm
                obtain ⟨q, hq⟩ : ∃ q : Nat, dg P i = (q : Int) := ⟨(dg P i).toNat, by omega⟩
                rw [if_neg hm] at hsm
                rw [hq] at c0 em hsm hlk1 HCP
                have HSM := hidden hsm
                have HLK := hidden hlk1
                have hs0 : 0 ≤ sm L P i := hsr.1
                have hs1 : sm L P i ≤ 16000000 := by omega
                clear hsm hlk1 hm hr hq hsr
                generalize sm L P i = s at *
                have HCS0 : Hid (cst (L.take 0) (i : Int) (q : Int) = 0) := hidden rfl
                go_wp2_with fail
                go_loopg [37, 38] n (fun g p v wq => ∃ (k : Nat) (c : Int), k + g = n ∧ p = .int .i64 c ∧ v = .int .i64 (k : Int) ∧ Hid (cst (L.take k) (i : Int) (q : Int) = c) ∧ Hid (Below w.heap.size w wq))
                case atStart => exact ⟨0, 0, by omega, rfl, rfl, HCS0, HB⟩
                case round =>
                  obtain ⟨k, c, hkg, rfl, rfl, HCC, HB⟩ := hrel
                  clear HCS0 c0
                  by_cases hk : k < n
                  · have hkz : (k : Int) < (n : Int) := by omega
                    obtain ⟨b, o, rfl, hbl, hcs⟩ := (HA.out.below HB.out).at (by omega)
                    obtain ⟨c0, c1, c2⟩ := hcs k hk
                    have hct := cst_take (L := L) (j := k) (by omega) (i : Int) (q : Int)
                    rw [HCC.out] at hct
                    obtain ⟨me, hme⟩ : ∃ me, L.getD k zz = me := ⟨_, rfl⟩
                    rw [hme] at c0 c1 c2 hct
                    clear hcs hme
                    obtain ⟨xa, xb, xc⟩ := me
                    simp only at c0 c1 c2 hct
                    have p1 := HCP.out _ HB.out
                    by_cases h1 : xa = i
                    · have eh1 : (xa == (i : Int)) = true := by simpa using h1
                      by_cases h2 : xb = q
                      · have eh2 : (xb == (q : Int)) = true := by simpa using h2
                        rw [show jn ⟨xa, xb, xc⟩ i q = true by rw [jn_iff]; exact .inl ⟨h1, h2⟩] at hct
                        rw [if_pos rfl] at hct
                        have HCT := hidden hct
                        clear hct h1 h2
                        go_wp2_with fail
                        go_quiet (fail)
                        go_wp2_with fail
                        go_roundg (n - (k + 1))
                        case measure => omega
                        case rel => exact ⟨k + 1, _, by omega, rfl, by go_num, HCT, hidden (below_drewN' HB.out _)⟩
                      · have eh2 : (xb == (q : Int)) = false := by simpa using h2
                        by_cases h3 : xb = i
                        · have eh3 : (xb == (i : Int)) = true := by simpa using h3
                          by_cases h4 : xa = q
                          · have eh4 : (xa == (q : Int)) = true := by simpa using h4
                            rw [show jn ⟨xa, xb, xc⟩ i q = true by rw [jn_iff]; exact .inr ⟨h3, h4⟩] at hct
                            rw [if_pos rfl] at hct
                            have HCT := hidden hct
                            clear hct h1 h2 h3 h4
                            go_wp2_with fail
                            go_quiet (fail)
                            go_wp2_with fail
                            go_roundg (n - (k + 1))
                            case measure => omega
                            case rel => exact ⟨k + 1, _, by omega, rfl, by go_num, HCT, hidden (below_drewN' HB.out _)⟩
                          · have eh4 : (xa == (q : Int)) = false := by simpa using h4
                            rw [show jn ⟨xa, xb, xc⟩ i q = false by rw [← Bool.not_eq_true, jn_iff]; rintro (⟨q1, q2⟩ | ⟨q1, q2⟩); (· exact h2 q2); (· exact h4 q2)] at hct
                            rw [if_neg (by simp)] at hct
                            have HCT := hidden hct
                            clear hct h1 h2 h3 h4
                            go_wp2_with fail
                            go_quiet (fail)
                            go_wp2_with fail
                            go_roundg (n - (k + 1))
                            case measure => omega
                            case rel => exact ⟨k + 1, _, by omega, rfl, by go_num, HCT, hidden (below_drewN' HB.out _)⟩
                        · have eh3 : (xb == (i : Int)) = false := by simpa using h3
                          rw [show jn ⟨xa, xb, xc⟩ i q = false by rw [← Bool.not_eq_true, jn_iff]; rintro (⟨q1, q2⟩ | ⟨q1, q2⟩); (· exact h2 q2); (· exact h3 q1)] at hct
                          rw [if_neg (by simp)] at hct
                          have HCT := hidden hct
                          clear hct h1 h2 h3
                          go_wp2_with fail
                          go_quiet (fail)
                          go_wp2_with fail
                          go_roundg (n - (k + 1))
                          case measure => omega
                          case rel => exact ⟨k + 1, _, by omega, rfl, by go_num, HCT, hidden (below_drewN' HB.out _)⟩
                    · have eh1 : (xa == (i : Int)) = false := by simpa using h1
                      by_cases h3 : xb = i
                      · have eh3 : (xb == (i : Int)) = true := by simpa using h3
                        by_cases h4 : xa = q
                        · have eh4 : (xa == (q : Int)) = true := by simpa using h4
                          rw [show jn ⟨xa, xb, xc⟩ i q = true by rw [jn_iff]; exact .inr ⟨h3, h4⟩] at hct
                          rw [if_pos rfl] at hct
                          have HCT := hidden hct
                          clear hct h1 h3 h4
                          go_wp2_with fail
                          go_quiet (fail)
                          go_wp2_with fail
                          go_roundg (n - (k + 1))
                          case measure => omega
                          case rel => exact ⟨k + 1, _, by omega, rfl, by go_num, HCT, hidden (below_drewN' HB.out _)⟩
                        · have eh4 : (xa == (q : Int)) = false := by simpa using h4
                          rw [show jn ⟨xa, xb, xc⟩ i q = false by rw [← Bool.not_eq_true, jn_iff]; rintro (⟨q1, q2⟩ | ⟨q1, q2⟩); (· exact h1 q1); (· exact h4 q2)] at hct
                          rw [if_neg (by simp)] at hct
                          have HCT := hidden hct
                          clear hct h1 h3 h4
                          go_wp2_with fail
                          go_quiet (fail)
                          go_wp2_with fail
                          go_roundg (n - (k + 1))
                          case measure => omega
                          case rel => exact ⟨k + 1, _, by omega, rfl, by go_num, HCT, hidden (below_drewN' HB.out _)⟩
                      · have eh3 : (xb == (i : Int)) = false := by simpa using h3
                        rw [show jn ⟨xa, xb, xc⟩ i q = false by rw [← Bool.not_eq_true, jn_iff]; rintro (⟨q1, q2⟩ | ⟨q1, q2⟩); (· exact h1 q1); (· exact h3 q1)] at hct
                        rw [if_neg (by simp)] at hct
                        have HCT := hidden hct
                        clear hct h1 h3
                        go_wp2_with fail
                        go_quiet (fail)
                        go_wp2_with fail
                        go_roundg (n - (k + 1))
                        case measure => omega
                        case rel => exact ⟨k + 1, _, by omega, rfl, by go_num, HCT, hidden (below_drewN' HB.out _)⟩
                  · have hkz : ¬ (k : Int) < (n : Int) := by omega
                    obtain rfl : n = k := by omega
                    have hc := HCC.out
                    rw [← hl, List.take_length] at hc
                    have hcr := cst_range HF.out.ok (i : Int) (q : Int)
                    rw [hc] at hcr
                    have hws : IntKind.i64.wrap (s + c) = s + c := wrap_id (by omega) (by omega)
                    by_cases hz : c = 0
                    · have HC1 : Hid (CRel L P (i + 1) 5 0) := .inr ⟨rfl, rfl, by rw [hpl]; exact lk_mono (j := i + 1) (by rw [HLK.out, hc, hz]; simp) (by omega)⟩
                      subst hz
                      clear hc hcr HCC
                      go_wp2_with fail
                      go_roundg (np - (i + 1))
                      case measure => omega
                      case rel => exact ⟨i + 1, 5, 0, by omega, rfl, rfl, by go_num, HC1, HB⟩
                    · have ez : (c == 0) = false := beq_eq_false_iff_ne.2 hz
                      have HC1 : Hid (CRel L P (i + 1) 0 (s + c)) := .inl ⟨rfl, by rw [HSM.out, hc], by rw [HLK.out, hc]; simp [hz]⟩
                      clear hc hcr HCC hz
                      go_wp2_with fail
                      go_roundg (np - (i + 1))
                      case measure => omega
                      case rel => exact ⟨i + 1, 0, s + c, by omega, rfl, rfl, by go_num, HC1, HB⟩
            · have hcr : CRel L P np 5 0 := .inr ⟨rfl, rfl, hlk⟩
              obtain ⟨hev, hsv⟩ := HCR.out _ _ hcr
              have HEV := hidden hev.symm
              have HSV := hidden hsv.symm
              clear hcr hlk HC hev hsv
              have C3 := hidden (cost_calls (np : Int) a n cap L ap np capp P _ (HA.out.below HB.out) hnc (HP.out.below HB.out))
              have hcf5 : cf np L P = 5 := by have := HEV.out; omega
              rw [hcf5, HSV.out] at C3
              go_wp2_with fail
              refine C3.out.mono ?_
              rintro e wy ⟨rfl, hby⟩
              have HWy : Hid (Below w.heap.size w wy) := HB.out.trans (hby.mono HB.out.size)
              clear hby C3
              go_wp2_with fail
              refine (told_f 5 _ (by omega) (HG.out _ HWy.out)).mono ?_
              rintro e wz ⟨rfl, hbz⟩
              have HWz : Hid (Below w.heap.size w wz) := HWy.out.trans (hbz.mono HWy.out.size)
              clear hbz
              go_wp2_with fail
              go_ret
              exact ⟨rfl, HWz.out⟩
          · have hiz : ¬ (i : Int) < (np : Int) := by omega
            obtain rfl : np = i := by omega
            obtain ⟨rfl, rfl⟩ := HCR.out _ _ HC.out
            clear HC
            have C3 := hidden (cost_calls (np : Int) a n cap L ap np capp P _ (HA.out.below HB.out) hnc (HP.out.below HB.out))
            go_wp2_with fail
            refine C3.out.mono ?_
            rintro e wy ⟨rfl, hby⟩
            have HWy : Hid (Below w.heap.size w wy) := HB.out.trans (hby.mono HB.out.size)
            clear hby C3
            go_wp2_with fail
            refine (told_f (cf np L P) _ (cf_le _ _ _) (HG.out _ HWy.out)).mono ?_
            rintro e wz ⟨rfl, hbz⟩
            have HWz : Hid (Below w.heap.size w wz) := HWy.out.trans (hbz.mono HWy.out.size)
            clear hbz
            go_wp2_with fail
            go_ret
            exact ⟨rfl, HWz.out⟩
      · have e2 : ((np : Int) != N) = true := bne_iff_ne.2 h2
        obtain ⟨hcf, hcv⟩ := cf_err3 h0 h1 (by rw [hpl]; exact h2)
        have HCF := hidden hcf
        have HCV := hidden hcv
        clear hcf hcv
        go_wp2_with fail
        go_loopg [11, 35, 36] 0 (fun _ u v t wr => u = .int .i64 3 ∧ v = .int .i64 0 ∧ t = .int .i64 0 ∧ Hid (Below w.heap.size w wr))
        case atStart => exact ⟨rfl, rfl, rfl, HW16⟩
        case round =>
          obtain ⟨rfl, rfl, rfl, HWr⟩ := hrel
          by_cases hz : 0 < np
          · have ez : decide ((0 : Int) < (np : Int)) = true := by simpa using hz
            have C3 := hidden (cost_calls N a n cap L ap np capp P _ (HA.out.below HWr.out) hnc (HP.out.below HWr.out))
            rw [HCF.out, HCV.out] at C3
            go_wp2_with fail
            refine C3.out.mono ?_
            rintro e wy ⟨rfl, hby⟩
            have HWy : Hid (Below w.heap.size w wy) := HWr.out.trans (hby.mono HWr.out.size)
            clear hby C3
            go_wp2_with fail
            refine (told_f 3 _ (by omega) (HG.out _ HWy.out)).mono ?_
            rintro e wz ⟨rfl, hbz⟩
            have HWz : Hid (Below w.heap.size w wz) := HWy.out.trans (hbz.mono HWy.out.size)
            clear hbz
            go_wp2_with fail
            go_ret
            exact ⟨rfl, HWz.out⟩
          · have ez : decide ((0 : Int) < (np : Int)) = false := by simpa using hz
            have C3 := hidden (cost_calls N a n cap L ap np capp P _ (HA.out.below HWr.out) hnc (HP.out.below HWr.out))
            rw [HCF.out, HCV.out] at C3
            go_wp2_with fail
            refine C3.out.mono ?_
            rintro e wy ⟨rfl, hby⟩
            have HWy : Hid (Below w.heap.size w wy) := HWr.out.trans (hby.mono HWr.out.size)
            clear hby C3
            go_wp2_with fail
            refine (told_f 3 _ (by omega) (HG.out _ HWy.out)).mono ?_
            rintro e wz ⟨rfl, hbz⟩
            have HWz : Hid (Below w.heap.size w wz) := HWy.out.trans (hbz.mono HWy.out.size)
            clear hbz
            go_wp2_with fail
            go_ret
            exact ⟨rfl, HWz.out⟩
    · have e1 : ((pf P : Int) == 0) = false := beq_eq_false_iff_ne.2 (by omega)
      obtain ⟨hcf, hcv⟩ := cf_err2 h0 h1
      have HCF := hidden hcf
      have HCV := hidden hcv
      clear hcf hcv
      go_wp2_with fail
      go_loopg [11, 35, 36] 0 (fun _ u v t wr => u = .int .i64 (pf P : Int) ∧ v = .int .i64 0 ∧ t = .int .i64 0 ∧ Hid (Below w.heap.size w wr))
      case atStart => exact ⟨rfl, rfl, rfl, HW16⟩
      case round =>
        obtain ⟨rfl, rfl, rfl, HWr⟩ := hrel
        by_cases hz : 0 < np
        · have ez : decide ((0 : Int) < (np : Int)) = true := by simpa using hz
          have C3 := hidden (cost_calls N a n cap L ap np capp P _ (HA.out.below HWr.out) hnc (HP.out.below HWr.out))
          rw [HCF.out, HCV.out] at C3
          go_wp2_with fail
          refine C3.out.mono ?_
          rintro e wy ⟨rfl, hby⟩
          have HWy : Hid (Below w.heap.size w wy) := HWr.out.trans (hby.mono HWr.out.size)
          clear hby C3
          go_wp2_with fail
          refine (told_f (pf P) _ (pf_le P) (HG.out _ HWy.out)).mono ?_
          rintro e wz ⟨rfl, hbz⟩
          have HWz : Hid (Below w.heap.size w wz) := HWy.out.trans (hbz.mono HWy.out.size)
          clear hbz
          go_wp2_with fail
          go_ret
          exact ⟨rfl, HWz.out⟩
        · have ez : decide ((0 : Int) < (np : Int)) = false := by simpa using hz
          have C3 := hidden (cost_calls N a n cap L ap np capp P _ (HA.out.below HWr.out) hnc (HP.out.below HWr.out))
          rw [HCF.out, HCV.out] at C3
          go_wp2_with fail
          refine C3.out.mono ?_
          rintro e wy ⟨rfl, hby⟩
          have HWy : Hid (Below w.heap.size w wy) := HWr.out.trans (hby.mono HWr.out.size)
          clear hby C3
          go_wp2_with fail
          refine (told_f (pf P) _ (pf_le P) (HG.out _ HWy.out)).mono ?_
          rintro e wz ⟨rfl, hbz⟩
          have HWz : Hid (Below w.heap.size w wz) := HWy.out.trans (hbz.mono HWy.out.size)
          clear hbz
          go_wp2_with fail
          go_ret
          exact ⟨rfl, HWz.out⟩
  · have e0 : ((ef N L : Int) == 0) = false := beq_eq_false_iff_ne.2 (by omega)
    obtain ⟨hcf, hcv⟩ := cf_err1 (P := P) h0
    have HCF := hidden hcf
    have HCV := hidden hcv
    clear hcf hcv
    go_wp2_with fail
    go_loopg [11, 35, 36] 0 (fun _ u v t wr => u = .int .i64 (ef N L : Int) ∧ v = .int .i64 0 ∧ t = .int .i64 0 ∧ Hid (Below w.heap.size w wr))
    case atStart => exact ⟨rfl, rfl, rfl, HW16⟩
    case round =>
      obtain ⟨rfl, rfl, rfl, HWr⟩ := hrel
      by_cases hz : 0 < np
      · have ez : decide ((0 : Int) < (np : Int)) = true := by simpa using hz
        have C3 := hidden (cost_calls N a n cap L ap np capp P _ (HA.out.below HWr.out) hnc (HP.out.below HWr.out))
        rw [HCF.out, HCV.out] at C3
        go_wp2_with fail
        refine C3.out.mono ?_
        rintro e wy ⟨rfl, hby⟩
        have HWy : Hid (Below w.heap.size w wy) := HWr.out.trans (hby.mono HWr.out.size)
        clear hby C3
        go_wp2_with fail
        refine (told_f (ef N L) _ (ef_le N L) (HG.out _ HWy.out)).mono ?_
        rintro e wz ⟨rfl, hbz⟩
        have HWz : Hid (Below w.heap.size w wz) := HWy.out.trans (hbz.mono HWy.out.size)
        clear hbz
        go_wp2_with fail
        go_ret
        exact ⟨rfl, HWz.out⟩
      · have ez : decide ((0 : Int) < (np : Int)) = false := by simpa using hz
        have C3 := hidden (cost_calls N a n cap L ap np capp P _ (HA.out.below HWr.out) hnc (HP.out.below HWr.out))
        rw [HCF.out, HCV.out] at C3
        go_wp2_with fail
        refine C3.out.mono ?_
        rintro e wy ⟨rfl, hby⟩
        have HWy : Hid (Below w.heap.size w wy) := HWr.out.trans (hby.mono HWr.out.size)
        clear hby C3
        go_wp2_with fail
        refine (told_f (ef N L) _ (ef_le N L) (HG.out _ HWy.out)).mono ?_
        rintro e wz ⟨rfl, hbz⟩
        have HWz : Hid (Below w.heap.size w wz) := HWy.out.trans (hbz.mono HWy.out.size)
        clear hbz
        go_wp2_with fail
        go_ret
        exact ⟨rfl, HWz.out⟩
end Go.Proofs.YtafokjafbdgagafDoor.Grows
