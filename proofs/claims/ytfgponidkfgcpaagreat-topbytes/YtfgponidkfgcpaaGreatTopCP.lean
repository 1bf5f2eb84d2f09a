/-
  The walk of the Go function TopBytes: it returns true at any bytes. It changes nothing that was there.
-/
import Derived.Test.YtfgponidkfgcpaaGreatTopBP
namespace Go.Proofs.YtfgponidkfgcpaaGreat.TB
open Go.ChangeShapes Go.WideShapes Go.ChangeAt Go.RowKit Go.Maps Go.Proofs.YtfgponidkfgcpaaGreat.Mem
set_option linter.unusedVariables false
theorem never_both {B : List Nat} (hB : ∀ c ∈ B, c < 256) (h : FM.bfault B = 0) : Back.rfault B ≠ 0 := by
  intro hr
  obtain ⟨_, r, rfl⟩ := frame_again hB h
  cases r with
  | nil =>
    unfold Back.rfault at hr
    split at hr <;> simp at hr
  | cons t r =>
    by_cases hs : Back.rshort (70 :: t :: r) = true
    · unfold Back.rfault at hr
      rw [if_pos hs] at hr
      omega
    · rw [Back.rfault_two 70 t r (by simpa using hs)] at hr
      obtain ⟨_, h2, _⟩ := Back.sfault_zero hr
      obtain ⟨h3, _⟩ := Back.efault_zero h2
      have := (Back.cfault_zero h3).1
      omega
theorem pack_again {B : List Nat} (hB : ∀ c ∈ B, c < 256) {x0 x1 x2 x3 x4 x5 x6 x7 : Nat} {R : List Nat} (e : B = x0 :: x1 :: x2 :: x3 :: x4 :: x5 :: x6 :: x7 :: R) (h : PM.good x0 = true) :
    PM.head (x2 * 256 + x3) (((x4 * 256 + x5) * 256 + x6) * 256 + x7) (x0 % 4) x1 (decide (160 ≤ x0)) ++ R = B ∧ x2 * 256 + x3 ≤ 65535 ∧ ((x4 * 256 + x5) * 256 + x6) * 256 + x7 ≤ 4294967295 := by
  subst e
  have g : ∀ c, c ∈ [x0, x1, x2, x3, x4, x5, x6, x7] → c < 256 := fun c hc => hB c (by simp at hc ⊢; omega)
  have g2 := g x2 (by simp)
  have g3 := g x3 (by simp)
  have g4 := g x4 (by simp)
  have g5 := g x5 (by simp)
  have g6 := g x6 (by simp)
  have g7 := g x7 (by simp)
  refine ⟨?_, by omega, by omega⟩
  rw [PM.head_read h g3 g4 g5 g6 g7]
  rfl
theorem a_read {a : Option Addr} {n cap : Nat} {B : List Nat} {W : World} (h : Arg W a n B) (hc : n ≤ cap) (hr : n ≤ 140737488355328) (hf : FM.bfault B = 0) :
    Calls Tryz.prog 23 #[.slice a n cap] W fun e w' => ∃ a' m c', e = .returned (.tuple #[.agg #[.int .i64 ((FM.bfr B).tr : Int), .int .i64 ((FM.bfr B).og : Int), .int .i64 ((FM.bfr B).ep : Int), .int .i64 ((FM.bfr B).hp : Int), .slice a' m c'], .nilIface]) ∧ Hid (Below W.heap.size W w' ∧ Arg w' a' m (FM.bfr B).body ∧ m ≤ c' ∧ (a' = none → m = 0 ∧ c' = 0)) := by
  refine (Frame.fread_all a n cap B W h hc hr).mono ?_
  rintro e w' ⟨a', m, c', rfl, h1, h2, h3, h4, _⟩
  rw [hf]
  exact ⟨a', m, c', rfl, hidden ⟨h1, h2, h3, h4⟩⟩
theorem a_bad {a : Option Addr} {n cap : Nat} {B : List Nat} {W : World} (h : Arg W a n B) (hc : n ≤ cap) (hr : n ≤ 140737488355328) (hf : FM.bfault B ≠ 0) :
    Calls Tryz.prog 23 #[.slice a n cap] W fun e w' => ∃ (t o ep hp : Int) (a' : Option Addr) (m c' : Nat), e = .returned (.tuple #[.agg #[.int .i64 t, .int .i64 o, .int .i64 ep, .int .i64 hp, .slice a' m c'], .iface 90 (.int .i64 (FM.bfault B : Int))]) ∧ Hid (Below W.heap.size W w') := by
  refine (Frame.fread_all a n cap B W h hc hr).mono ?_
  rintro e w' ⟨a', m, c', rfl, h1, h2, h3, h4, _⟩
  rw [Pack.errv_pos hf]
  exact ⟨_, _, _, _, a', m, c', rfl, hidden h1⟩
theorem b_bad {a : Option Addr} {n cap : Nat} {B : List Nat} {W : World} (h : Arg W a n B) (hc : n ≤ cap) (hf : Back.rfault B ≠ 0) :
    Calls Tryz.prog 24 #[.slice a n cap] W fun e w' => ∃ (k t : Int) (a' : Option Addr) (m c' : Nat) (u : Int), e = .returned (.tuple #[.agg #[.int .i64 k, .int .i64 t, .slice a' m c', .int .i64 u], .iface 90 (.int .i64 (Back.rfault B : Int))]) ∧ Hid (Below W.heap.size W w') := by
  refine (Back.read_gen a n cap B W h hc).mono ?_
  rintro e w' ⟨k, t, a', m, c', u, rfl, h1⟩
  rw [Back.errv_pos hf]
  exact ⟨k, t, a', m, c', u, rfl, hidden h1.2.1⟩
theorem b_read {a : Option Addr} {n cap : Nat} {B : List Nat} {W : World} (h : Arg W a n B) (hc : n ≤ cap) (hf : Back.rfault B = 0) :
    Calls Tryz.prog 24 #[.slice a n cap] W fun e w' => ∃ (k t : Int) (a' : Option Addr) (m c' : Nat) (u : Int) (L : List Int), e = .returned (.tuple #[.agg #[.int .i64 k, .int .i64 t, .slice a' m c', .int .i64 u], .nilIface]) ∧ Hid (Below W.heap.size W w' ∧ Back.IArg w' a' m L ∧ (a' = none → m = 0 ∧ c' = 0) ∧ Back.efault k t L u = 0 ∧ Back.encB k t L u = B ∧ Back.pfault L = 0 ∧ BM.norm L = L) := by
  refine (Back.read_gen a n cap B W h hc).mono ?_
  rintro e w' ⟨k, t, a', m, c', u, rfl, h1⟩
  rw [hf]
  obtain ⟨g1, g2, _, g4⟩ := h1
  obtain ⟨k', t', r, rfl, _, hs, rfl, rfl, rfl, hI⟩ := g4 hf
  obtain ⟨_, s2, s3⟩ := Back.sfault_zero hs
  obtain ⟨s4, s5⟩ := Back.efault_zero s2
  refine ⟨_, _, a', m, c', _, _, rfl, hidden ⟨g2, hI, g1, s2, ?_, s5, BM.norm_self (Back.cfault_zero s4).2.2.2.2.2.2⟩⟩
  unfold Back.encB
  rw [if_pos s2, s3]
set_option maxHeartbeats 4000000 in
set_option maxRecDepth 100000 in
theorem walk_none (a : Option Addr) (n cap : Nat) (B : List Nat) (w : World) (h : Arg w a n B) (hc : n ≤ cap) (hr : n ≤ 140737488355328) (h1 : FM.bfault B ≠ 0) (h2 : Back.rfault B ≠ 0) :
    Calls Tryz.prog 5 #[.slice a n cap] w fun e w' => e = .returned (.bool true) ∧ Below w.heap.size w w' := by
  have C0 := hidden (MS.one_calls w)
  have C1 := hidden (fun W (hW : Below w.heap.size w W) => a_bad (h.below hW) hc hr h1)
  have C2 := hidden (fun W (hW : Below w.heap.size w W) => b_bad (h.below hW) hc h2)
  generalize FM.bfault B = f1 at *
  generalize Back.rfault B = f2 at *
  clear h hc hr h1 h2
  go_enter Tryz.func5, Tryz.ntmps5
  go_wp2_with fail
  refine C0.out.mono ?_
  rintro e w1 ⟨rfl, hb1⟩
  have HB1 := hidden hb1
  clear C0 hb1
  go_wp2_with fail
  refine (C1.out w1 HB1.out).mono ?_
  rintro e w2 ⟨t, o, ep, hp, a', m, c', rfl, hb2⟩
  have HB2 := hidden (HB1.out.trans (hb2.out.mono HB1.out.size))
  have HB3 := hidden (HB2.out.alloc HB2.out.size (.cells #[.int .i64 t, .int .i64 o, .int .i64 ep, .int .i64 hp, .slice a' m c'] 55))
  clear C1 HB1 hb2
  go_wp2_with fail
  refine (C2.out _ HB3.out).mono ?_
  rintro e w3 ⟨k, t', a2, m2, c2, u, rfl, hb3⟩
  have HB4 := hidden (HB3.out.trans (hb3.out.mono HB3.out.size))
  have HB5 := hidden (HB4.out.alloc HB4.out.size (.cells #[.int .i64 k, .int .i64 t', .slice a2 m2 c2, .int .i64 u] 59))
  clear C2 HB3 hb3 HB2 HB4
  go_wp2_with fail
  go_ret
  exact ⟨rfl, HB5.out⟩
set_option maxHeartbeats 4000000 in
set_option maxRecDepth 100000 in
theorem walk_back (a : Option Addr) (n cap : Nat) (B : List Nat) (w : World) (h : Arg w a n B) (hc : n ≤ cap) (hr : n ≤ 140737488355328) (h1 : FM.bfault B ≠ 0) (h2 : Back.rfault B = 0) :
    Calls Tryz.prog 5 #[.slice a n cap] w fun e w' => e = .returned (.bool true) ∧ Below w.heap.size w w' := by
  have C0 := hidden (MS.one_calls w)
  have C1 := hidden (fun W (hW : Below w.heap.size w W) => a_bad (h.below hW) hc hr h1)
  have C2 := hidden (fun W (hW : Below w.heap.size w W) => b_read (h.below hW) hc h2)
  have HA := hidden h
  generalize FM.bfault B = f1 at *
  clear h hc hr h1 h2
  go_enter Tryz.func5, Tryz.ntmps5
  go_wp2_with fail
  refine C0.out.mono ?_
  rintro e w1 ⟨rfl, hb1⟩
  have HB1 := hidden hb1
  clear C0 hb1
  go_wp2_with fail
  refine (C1.out w1 HB1.out).mono ?_
  rintro e w2 ⟨t, o, ep, hp, a', m, c', rfl, hb2⟩
  have HB2 := hidden (HB1.out.trans (hb2.out.mono HB1.out.size))
  have HB3 := hidden (HB2.out.alloc HB2.out.size (.cells #[.int .i64 t, .int .i64 o, .int .i64 ep, .int .i64 hp, .slice a' m c'] 55))
  clear C1 HB1 hb2
  go_wp2_with fail
  refine (C2.out _ HB3.out).mono ?_
  rintro e w3 ⟨k, t', a2, m2, c2, u, L, rfl, H3⟩
  obtain ⟨W4, hW4⟩ : ∃ W4, w3.alloc (.cells #[.int .i64 k, .int .i64 t', .slice a2 m2 c2, .int .i64 u] 59) = W4 := ⟨_, rfl⟩
  have HX4 : Hid (Back.BBox W4 w3.heap.size k t' (.slice a2 m2 c2) u) := by rw [← hW4]; exact hidden (Back.BBox.new w3 k t' (.slice a2 m2 c2) u)
  have HB4 : Hid (Below w.heap.size w W4) := by
    have := HB3.out.trans (H3.out.1.mono HB3.out.size)
    rw [← hW4]
    exact hidden (this.alloc this.size _)
  have HI4 : Hid (Back.IArg W4 a2 m2 L) := by rw [← hW4]; exact hidden (H3.out.2.1.below ((Below.refl _ _).alloc (Nat.le_refl _) _))
  have C4 := hidden (Back.encode_gen k t' a2 m2 c2 u L W4 HI4.out H3.out.2.2.1)
  rw [H3.out.2.2.2.1, H3.out.2.2.2.2.1] at C4
  have HW4 := hidden hW4
  obtain ⟨x0, x1, x2, x3⟩ := HX4.out.cells
  have HL := hidden H3.out.2.2.2.2.2
  have HN := hidden H3.out.2.2.1
  clear C2 HB3 H3 HB2 hW4
  obtain ⟨gb, hgb⟩ : ∃ gb, w3.heap.size = gb := ⟨_, rfl⟩
  rw [hgb] at x0 x1 x2 x3 HX4
  go_upto_region 14 with fail
  rw [HW4.out]
  clear HW4 hgb
  go_wp2_with fail
  refine C4.out.mono ?_
  rintro e w5 ⟨a5, m5, c5, rfl, hA5, _, _, hb5⟩
  have HA5 := hidden hA5
  have HX5 := hidden (HX4.out.below hb5 HX4.out.lt)
  have HB5 := hidden (HB4.out.trans (hb5.mono HB4.out.size))
  have HI5 := hidden (HI4.out.below hb5)
  have C5 := hidden (Back.pairs_gen a2 m2 c2 L w5 HI5.out HN.out)
  rw [HL.out.1] at C5
  obtain ⟨y0, y1, y2, y3⟩ := HX5.out.cells
  clear C4 hA5 hb5 HX4 HB4 HI4 x0 x1 x2 x3
  rw [Back.errv_zero]
  go_wp2_with fail
  refine C5.out.mono ?_
  rintro e w6 ⟨a6, m6, c6, rfl, hP6, _, _, hb6⟩
  have HA6 := hidden (HA5.out.below hb6)
  have HX6 := hidden (HX5.out.below hb6 HX5.out.lt)
  have HB6 := hidden (HB5.out.trans (hb6.mono HB5.out.size))
  have HI6 := hidden (HI5.out.below hb6)
  obtain ⟨q1, q2, _⟩ := Back.back_again HL.out.1
  have C6 := Back.numbers_gen a6 m6 c6 _ w6 hP6
  rw [q1, q2, HL.out.2, Back.errv_zero] at C6
  have C6 := hidden C6
  clear C5 hP6 hb6 HX5 HB5 HI5 HA5 y0 y1 y2 y3 q1 q2
  rw [Back.errv_zero]
  go_wp2_with fail
  refine C6.out.mono ?_
  rintro e w7 ⟨a7, m7, c7, rfl, hI7, _, _, hb7⟩
  have HA7 := hidden (HA6.out.below hb7)
  have HX7 := hidden (HX6.out.below hb7 HX6.out.lt)
  have HB7 := hidden (HB6.out.trans (hb7.mono HB6.out.size))
  have HI7 := hidden (HI6.out.below hb7)
  obtain rfl : m7 = m2 := hI7.2.1.symm.trans HI7.out.2.1
  have C7 := hidden (Back.ints_same a7 a2 m7 c7 c2 L w7 hI7 HI7.out)
  obtain ⟨z0, z1, z2, z3⟩ := HX7.out.cells
  clear C6 hI7 hb7 HX6 HB6 HI6 HA6
  go_wp2_with fail
  refine C7.out.mono ?_
  rintro e w8 ⟨rfl, hb8⟩
  have s1 := MS.str_conv (cap := c5) (HA7.out.below hb8)
  have HB8 := hidden (HB7.out.trans (hb8.mono HB7.out.size))
  have s2 := MS.str_conv (cap := cap) (HA.out.below HB8.out)
  generalize str B = SB at *
  clear C7 hb8 HX7 HB7 HI7 HA7 z0 z1 z2 z3
  go_wp2_with fail
  go_ret
  exact ⟨rfl, HB8.out⟩
set_option maxHeartbeats 4000000 in
set_option maxRecDepth 100000 in
theorem walk_frame (a : Option Addr) (n cap : Nat) (B : List Nat) (w : World) (h : Arg w a n B) (hc : n ≤ cap) (hr : n ≤ 140737488355328) (h1 : FM.bfault B = 0) :
    Calls Tryz.prog 5 #[.slice a n cap] w fun e w' => e = .returned (.bool true) ∧ Below w.heap.size w w' := by
  have hB256 := h.1.1
  have h2 := never_both hB256 h1
  have C0 := hidden (MS.one_calls w)
  have C1 := hidden (fun W (hW : Below w.heap.size w W) => a_read (h.below hW) hc hr h1)
  have C2 := hidden (fun W (hW : Below w.heap.size w W) => b_bad (h.below hW) hc h2)
  have HA := hidden h
  obtain ⟨g1, g2, g3, g4, g5, g6⟩ := FM.bfr_good h1
  have hff : FM.ffault ((FM.bfr B).tr : Int) ((FM.bfr B).og : Int) ((FM.bfr B).ep : Int) ((FM.bfr B).hp : Int) (FM.bfr B).body = 0 := by rw [FM.ffault_good g1 g2 g3 g4 g5]; exact g6
  have henc : Frame.fenc ((FM.bfr B).tr : Int) ((FM.bfr B).og : Int) ((FM.bfr B).ep : Int) ((FM.bfr B).hp : Int) (FM.bfr B).body = B := by rw [Frame.fenc_good hff]; exact (frame_again hB256 h1).1
  have CE : Hid (∀ W a' m c', Arg W a' m (FM.bfr B).body → (a' = none → m = 0 ∧ c' = 0) → m ≤ c' → Calls Tryz.prog 25 #[.agg #[.int .i64 ((FM.bfr B).tr : Int), .int .i64 ((FM.bfr B).og : Int), .int .i64 ((FM.bfr B).ep : Int), .int .i64 ((FM.bfr B).hp : Int), .slice a' m c']] W fun e w' => ∃ a2 m2 c2, e = .returned (.tuple #[.slice a2 m2 c2, .nilIface]) ∧ Hid (Below W.heap.size W w' ∧ Arg w' a2 m2 B)) := by
    refine hidden ?_
    intro W a' m c' hA hn hc
    refine (Frame.fencode_all _ _ _ _ a' m c' (FM.bfr B).body W hA hn hc).mono ?_
    rintro e w' ⟨a2, m2, c2, rfl, q1, q2, _⟩
    rw [hff]
    rw [henc] at q2
    exact ⟨a2, m2, c2, rfl, hidden ⟨q1, q2⟩⟩
  have CP : Hid (∀ W a' m c', Arg W a' m (FM.bfr B).body → m ≤ c' → Calls Tryz.prog 26 #[.slice a' m c'] W fun e w' => ∃ (s t l v : Nat) (st : Bool) (a3 : Option Addr) (m3 c3 : Nat) (R : List Nat), e = .returned (.tuple #[.agg #[.int .i64 (s : Int), .int .i64 (t : Int), .int .i64 (l : Int), .int .i64 (v : Int), .bool st, .slice a3 m3 c3], .nilIface]) ∧ Hid (Below W.heap.size W w' ∧ Arg w' a3 m3 R ∧ (a3 = none → m3 = 0 ∧ c3 = 0) ∧ PM.head s t l v st ++ R = (FM.bfr B).body ∧ s ≤ 65535 ∧ t ≤ 4294967295 ∧ l ≤ 3 ∧ v ≤ 127 ∧ m3 ≤ 1000)) := by
    refine hidden ?_
    intro W a' m c' hA hc
    have hbody := hA.1.1
    refine (Pack.read_gen a' m c' (FM.bfr B).body W hA hc).mono ?_
    rintro e w' ⟨s, t, l, v, st, a3, m3, c3, rfl, q1, q2, q3, q4⟩
    rw [g6]
    rcases q4 with ⟨q5, _⟩ | ⟨_, x0, x1, x2, x3, x4, x5, x6, x7, R, hx, y1, y2, y3, rfl, rfl, rfl, rfl, rfl, hR⟩
    · exact absurd g6 q5
    · obtain ⟨z1, z2, z3⟩ := pack_again hbody hx y1
      exact ⟨_, _, _, _, _, a3, m3, c3, R, rfl, hidden ⟨q1, hR, q2, z1, z2, z3, by omega, y2, by have := hR.2.1; omega⟩⟩
  generalize Back.rfault B = f2 at *
  obtain ⟨tr, htr⟩ : ∃ x, ((FM.bfr B).tr : Int) = x := ⟨_, rfl⟩
  obtain ⟨og, hog⟩ : ∃ x, ((FM.bfr B).og : Int) = x := ⟨_, rfl⟩
  obtain ⟨ep, hep⟩ : ∃ x, ((FM.bfr B).ep : Int) = x := ⟨_, rfl⟩
  obtain ⟨hp, hhp⟩ : ∃ x, ((FM.bfr B).hp : Int) = x := ⟨_, rfl⟩
  obtain ⟨bd, hbd⟩ : ∃ x, (FM.bfr B).body = x := ⟨_, rfl⟩
  rw [htr, hog, hep, hhp, hbd] at CE
  rw [htr, hog, hep, hhp, hbd] at C1
  rw [hbd] at CP
  clear h hc hr h1 h2 g1 g2 g3 g4 g5 g6 hff henc htr hog hep hhp hbd hB256
  go_enter Tryz.func5, Tryz.ntmps5
  go_wp2_with fail
  refine C0.out.mono ?_
  rintro e w1 ⟨rfl, hb1⟩
  have HB1 := hidden hb1
  clear C0 hb1
  go_wp2_with fail
  refine (C1.out w1 HB1.out).mono ?_
  rintro e w2 ⟨a', m, c', rfl, H2⟩
  obtain ⟨W3, hW3⟩ : ∃ W3, w2.alloc (.cells #[.int .i64 tr, .int .i64 og, .int .i64 ep, .int .i64 hp, .slice a' m c'] 55) = W3 := ⟨_, rfl⟩
  have hal : Below w2.heap.size w2 W3 := by rw [← hW3]; exact (Below.refl _ _).alloc (Nat.le_refl _) _
  have HX3 : Hid (Frame.FBox W3 w2.heap.size tr og ep hp (.slice a' m c')) := by rw [← hW3]; exact hidden (Frame.FBox.new w2 tr og ep hp (.slice a' m c'))
  have HB3 : Hid (Below w.heap.size w W3) := by
    have := HB1.out.trans (H2.out.1.mono HB1.out.size)
    exact hidden (this.trans (hal.mono this.size))
  have HA3 := hidden (H2.out.2.1.below hal)
  have HC3 := hidden H2.out.2.2
  have HW3 := hidden hW3
  have CB := hidden (C2.out W3 HB3.out)
  clear C1 HB1 H2 hal hW3 C2
  obtain ⟨gf, hgf⟩ : ∃ gf, w2.heap.size = gf := ⟨_, rfl⟩
  rw [hgf] at HX3
  go_upto_region 5 with fail
  rw [HW3.out]
  clear HW3
  clear hgf
  go_wp2_with fail
  refine CB.out.mono ?_
  rintro e w4 ⟨k, t', a4, m4, c4, u, rfl, hb4⟩
  obtain ⟨W5, hW5⟩ : ∃ W5, w4.alloc (.cells #[.int .i64 k, .int .i64 t', .slice a4 m4 c4, .int .i64 u] 59) = W5 := ⟨_, rfl⟩
  have hb5 : Below W3.heap.size W3 W5 := by rw [← hW5]; exact hb4.out.alloc hb4.out.size _
  have HX5 := hidden (HX3.out.below hb5 HX3.out.lt)
  have HB5 := hidden (HB3.out.trans (hb5.mono HB3.out.size))
  have HA5 := hidden (HA3.out.below hb5)
  have HW5 := hidden hW5
  have CF := hidden (CE.out W5 a' m c' HA5.out HC3.out.2 HC3.out.1)
  obtain ⟨x0, x1, x2, x3, x4⟩ := HX5.out.cells
  clear CB hb4 hb5 hW5 HX3 HB3 HA3 CE
  go_upto_region 9 with fail
  rw [HW5.out]
  clear HW5
  go_wp2_with fail
  refine CF.out.mono ?_
  rintro e w6 ⟨a2, m2, c2, rfl, H6⟩
  have HX6 := hidden (HX5.out.below H6.out.1 HX5.out.lt)
  have HB6 := hidden (HB5.out.trans (H6.out.1.mono HB5.out.size))
  have HA6 := hidden (HA5.out.below H6.out.1)
  have HD6 := hidden H6.out.2
  have CG := hidden (CP.out w6 a' m c' HA6.out HC3.out.1)
  clear CF H6 HX5 HB5 HA5 x0 x1 x2 x3 x4 CP
  obtain ⟨x0, x1, x2, x3, x4⟩ := HX6.out.cells
  go_wp2_with fail
  refine CG.out.mono ?_
  rintro e w7 ⟨s, t, l, v, st, a3, m3, c3, R, rfl, H7⟩
  obtain ⟨W8, hW8⟩ : ∃ W8, w7.alloc (.cells #[.int .i64 (s : Int), .int .i64 (t : Int), .int .i64 (l : Int), .int .i64 (v : Int), .bool st, .slice a3 m3 c3] 25) = W8 := ⟨_, rfl⟩
  have hal : Below w7.heap.size w7 W8 := by rw [← hW8]; exact (Below.refl _ _).alloc (Nat.le_refl _) _
  have hb8 : Below w6.heap.size w6 W8 := H7.out.1.trans (hal.mono H7.out.1.size)
  have HX8 := hidden (HX6.out.below hb8 HX6.out.lt)
  have HB8 := hidden (HB6.out.trans (hb8.mono HB6.out.size))
  have HA8 := hidden (HA6.out.below hb8)
  have HD8 := hidden (HD6.out.below hb8)
  have HR8 := hidden (H7.out.2.1.below hal)
  have HH := hidden H7.out.2.2
  have hbox : W8.heap[w7.heap.size]? = some (.cells #[.int .i64 (s : Int), .int .i64 (t : Int), .int .i64 (l : Int), .int .i64 (v : Int), .bool st, .slice a3 m3 c3] 25 (0, 0)) := by rw [← hW8]; exact heap_alloc_new w7 _
  obtain ⟨gp, hgp⟩ : ∃ gp, w7.heap.size = gp := ⟨_, rfl⟩
  rw [hgp] at hbox
  have p0 : W8.cell? ⟨gp, 0, none⟩ = some (.int .i64 (s : Int)) := by simp [World.cell?, hbox]
  have p1 : W8.cell? ⟨gp, 1, none⟩ = some (.int .i64 (t : Int)) := by simp [World.cell?, hbox]
  have p2 : W8.cell? ⟨gp, 2, none⟩ = some (.int .i64 (l : Int)) := by simp [World.cell?, hbox]
  have p3 : W8.cell? ⟨gp, 3, none⟩ = some (.int .i64 (v : Int)) := by simp [World.cell?, hbox]
  have p4 : W8.cell? ⟨gp, 4, none⟩ = some (.bool st) := by simp [World.cell?, hbox]
  have p5 : W8.cell? ⟨gp, 5, none⟩ = some (.slice a3 m3 c3) := by simp [World.cell?, hbox]
  have CH := hidden (Pack.encode_good s t l v st a3 m3 c3 R W8 HR8.out HH.out.1 HH.out.2.2.1 HH.out.2.2.2.1 HH.out.2.2.2.2.1 HH.out.2.2.2.2.2.1 HH.out.2.2.2.2.2.2)
  have HW8 := hidden hW8
  clear CG H7 HX6 HB6 HA6 HD6 x0 x1 x2 x3 x4 hal hb8 hbox hW8
  go_upto_region 11 with fail
  rw [HW8.out]
  clear HW8 hgp
  go_wp2_with fail
  refine CH.out.mono ?_
  rintro e w9 ⟨g9, rfl, _, hR9, hb9⟩
  have HX9 := hidden (HX8.out.below hb9 HX8.out.lt)
  have HB9 := hidden (HB8.out.trans (hb9.mono HB8.out.size))
  rw [HH.out.2.1] at hR9
  have hbl := HA8.out.1.1
  have hlen : bd.length = 8 + m3 := by
    have e1 := congrArg List.length HH.out.2.1
    have e2 := HR8.out.2.1
    rw [List.length_append, PM.head_len] at e1
    omega
  have s1 := MS.str_conv (cap := c2) (HD8.out.below hb9)
  have s2 := MS.str_conv (cap := cap) (HA.out.below HB9.out)
  have s3 := MS.str_conv (cap := 8 + m3) (w := w9) (a := some ⟨g9, 0, none⟩) (n := 8 + m3) (L := bd) ⟨hR9.bys hbl, hlen, by have := HH.out.2.2.2.2.2.2; omega⟩
  have s4 := MS.str_conv (cap := c') (HA8.out.below hb9)
  obtain ⟨x0, x1, x2, x3, x4⟩ := HX9.out.cells
  generalize str B = SB at *
  generalize str bd = SD at *
  clear CH HX8 HB8 HA8 HD8 HR8 HH hR9 hb9 hbl hlen p0 p1 p2 p3 p4 p5 HX9
  go_wp2_with fail
  go_ret
  exact ⟨rfl, HB9.out⟩
theorem walk (a : Option Addr) (n cap : Nat) (B : List Nat) (w : World) (h : Arg w a n B) (hc : n ≤ cap) (hr : n ≤ 140737488355328) :
    Calls Tryz.prog 5 #[.slice a n cap] w fun e w' => e = .returned (.bool true) ∧ Below w.heap.size w w' := by
  by_cases h1 : FM.bfault B = 0
  · exact walk_frame a n cap B w h hc hr h1
  · by_cases h2 : Back.rfault B = 0
    · exact walk_back a n cap B w h hc hr h1 h2
    · exact walk_none a n cap B w h hc hr h1 h2
end Go.Proofs.YtfgponidkfgcpaaGreat.TB
