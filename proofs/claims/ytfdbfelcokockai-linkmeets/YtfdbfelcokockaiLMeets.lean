/-
  The walk of the Go function LinkMeets: it returns true at any two numbers and any rows of numbers.
-/
import Derived.Test.YtfdbfelcokockaiLinkM
import Derived.Test.YtfdbfelcokockaiOpenS
import Derived.LoopTactic
import Derived.Deep.LoopGhost
import Derived.Deep.CutRange
import Derived.Deep.CutBlock
import Derived.Deep.AppendLies
namespace Go.Proofs.Ytfdbfelcokockai.Meets
open Go.ChangeShapes Go.WideShapes Go.ChangeAt Go.RowKit Go.Proofs.Ytfdbfelcokockai.Mem Go.Proofs.Ytfdbfelcokockai.LK Go.Proofs.Ytfdbfelcokockai.Link
set_option linter.unusedVariables false

/-- three numbers in memory -/
def V3 (w : World) (vb : Nat) (v0 v1 v2 : Int) : Prop := w.heap[vb]? = some (.cells #[.int .i64 v0, .int .i64 v1, .int .i64 v2] 33 (0, 0))
theorem v3_cells {w : World} {vb : Nat} {v0 v1 v2 : Int} (h : V3 w vb v0 v1 v2) : w.cell? ⟨vb, 0, none⟩ = some (.int .i64 v0) ∧ w.cell? ⟨vb, 1, none⟩ = some (.int .i64 v1) ∧ w.cell? ⟨vb, 2, none⟩ = some (.int .i64 v2) := by
  unfold V3 at h
  refine ⟨?_, ?_, ?_⟩ <;> simp [World.cell?, h]
theorem v3_cell {w : World} {vb : Nat} {v0 v1 v2 : Int} (h : V3 w vb v0 v1 v2) (j : Nat) (hj : j < 3) : ∃ x, w.cell? ⟨vb, j, none⟩ = some (.int .i64 x) := by
  obtain ⟨c0, c1, c2⟩ := v3_cells h
  match j, hj with
  | 0, _ => exact ⟨_, c0⟩
  | 1, _ => exact ⟨_, c1⟩
  | 2, _ => exact ⟨_, c2⟩
theorem v3_set {w : World} {vb : Nat} {v0 v1 v2 : Int} (h : V3 w vb v0 v1 v2) (j : Nat) (hj : j < 3) (x : Int) : ∃ u0 u1 u2, V3 (w.setCell ⟨vb, j, none⟩ (.int .i64 x)) vb u0 u1 u2 := by
  have hs := fun j => heap_setCell_same w vb j _ 33 (.int .i64 x) h
  match j, hj with
  | 0, _ => exact ⟨x, v1, v2, hs 0⟩
  | 1, _ => exact ⟨v0, x, v2, hs 1⟩
  | 2, _ => exact ⟨v0, v1, x, hs 2⟩
theorem v3_free {w : World} {vb : Nat} {v0 v1 v2 : Int} (h : V3 w vb v0 v1 v2) (j : Nat) : w.frozen? ⟨vb, j, none⟩ = false := by
  unfold V3 at h
  simp [World.frozen?, h]
/-- behind the switch -/
def CutR (w wx : World) (x : Nat) (tx ty : Value) (nx ny : Nat) (a b B nw : Int) (b' y' n' o' e' l' : Value) : Prop :=
  ∃ (B2 : Int) (Y2 : Nat) (nw2 : Int) (v : Value) (lf : Bool) (s2 t2 : Lk), b' = .int .i64 B2 ∧ y' = .pointer (some ⟨Y2, 0, none⟩) ∧ n' = .int .i64 nw2 ∧ v = o' ∧ e' = .nilIface ∧ l' = .bool lf ∧ B ≤ B2 ∧ B2 ≤ B + 1 ∧ nw ≤ nw2 ∧ nw2 ≤ nw + 20 ∧
    Hid (MSt w wx x Y2 s2 t2 tx ty nx ny a B2 b nw2 ∧ Fine wx v (if lf = true then a else b) (if lf = true then a else B2))

/-- whether it is said to the right one -/
def QR (v : Value) (lf : Bool) (c : Value) : Prop := ∃ q : Bool, c = .bool q ∧ Hid ((q = true → v ≠ .slice none 0 0 ∧ lf = true) ∧ (q = false → v = .slice none 0 0 ∨ lf = false))
/-- behind what is said -/
def AR (w wx : World) (x Y : Nat) (s t : Lk) (nx ny : Nat) (a B b nw : Int) (tx' ty' : Value) : Prop :=
  ∃ (ta ua : Option Addr) (n m tc uc : Nat), tx' = .slice ta n tc ∧ ty' = .slice ua m uc ∧ n ≤ nx + 1 ∧ m ≤ ny + 1 ∧ Hid (MSt w wx x Y s t (.slice ta n tc) (.slice ua m uc) n m a B b nw)

set_option maxHeartbeats 16000000 in
set_option maxRecDepth 100000 in
theorem walk (a b : Int) (sa : Option Addr) (ls cs : Nat) (Z : Nat → Int) (w : World) (hR : Open.NRows w sa ls Z) :
    Calls Try.prog 3 #[.int .i64 a, .int .i64 b, .slice sa ls cs] w fun e w' => e = .returned (.bool true) ∧ Below w.heap.size w w' := by
  have hls := hR.1
  have HRs := hidden hR.2
  have HN7 := hidden (new_ok 7 w (by omega) (by omega))
  obtain ⟨i0, hii, hz0, hz1, hz2⟩ := info_parts infoSI
  clear hR
  go_enter Try.func3, Try.ntmps3
  go_wp2_with fail
  refine HN7.out.mono ?_
  rintro e w1 ⟨rfl, hl, hb⟩
  have HO1 : Hid (OSt w w1 w.heap.size (st0 7)) := ⟨hb, Nat.le_refl _, hl⟩
  obtain ⟨o, ho⟩ : ∃ o, w.heap.size = o := ⟨_, rfl⟩
  have HO1 : Hid (OSt w w1 o (st0 7)) := by rw [← ho]; exact HO1
  rw [ho]
  clear hl hb HN7 ho
  go_wp2_with fail
  refine (one_open HO1.out).mono ?_
  rintro e w2 ⟨g1, rfl, H2⟩
  clear HO1
  go_wp2_with fail
  refine (one_hear (g1 := g1) (by exact H2.out.1.below ((Below.refl _ _).alloc (Nat.le_refl _) _)) (by exact H2.out.2.below ((Below.refl _ _).alloc (Nat.le_refl _) _)) (by exact heap_alloc_new w2 _)).mono ?_
  rintro e w3 ⟨g2, rfl, H3⟩
  clear H2
  obtain ⟨_, m1, _⟩ := msg_cells H3.out.2.1
  obtain ⟨p0, _, p2⟩ := msg_cells H3.out.2.2
  obtain ⟨_, _, q2, q3, _⟩ := L6.cells H3.out.1.at_
  have q2 : w3.cell? ⟨o, 2, none⟩ = some (.int .i64 2) := q2
  have q3 : w3.cell? ⟨o, 3, none⟩ = some (.int .i64 9) := q3
  go_wp2_with fail
  refine (state_calls o 2 w3 q2).mono ?_
  rintro e w4 ⟨rfl, hw⟩
  obtain rfl := hw.symm
  go_wp2_with fail
  refine (other_calls o 9 _ q3).mono ?_
  rintro e w4 ⟨rfl, hw⟩
  obtain rfl := hw.symm
  have HB3 := hidden H3.out.1.bel
  clear m1 p0 p2 q2 q3 H3
  by_cases ha : a < 1 ∨ 1000000 < a
  · have HA := hidden (fun W => new_err a W ha)
    have HB := hidden (fun W => new_any b W)
    rw [errv_pos (by decide)] at HA
    by_cases ha0 : a < 1
    · have d0 : decide (a < 1) = true := decide_eq_true ha0
      clear ha
      go_wp2_with fail
      refine (HA.out _).mono ?_
      rintro e w5 ⟨rfl, hw⟩
      obtain rfl := hw.symm
      go_wp2_with fail
      refine (HB.out _).mono ?_
      rintro e w6 ⟨p, ev, rfl, hb⟩
      have HB6 := hidden (HB3.out.trans (hb.mono HB3.out.size))
      clear hb
      go_wp2_with fail
      go_ret
      exact ⟨rfl, HB6.out⟩
    · have d0 : decide (a < 1) = false := decide_eq_false ha0
      have d1 : decide (1000000 < a) = true := decide_eq_true (by omega)
      clear ha
      go_wp2_with fail
      refine (HA.out _).mono ?_
      rintro e w5 ⟨rfl, hw⟩
      obtain rfl := hw.symm
      go_wp2_with fail
      refine (HB.out _).mono ?_
      rintro e w6 ⟨p, ev, rfl, hb⟩
      have HB6 := hidden (HB3.out.trans (hb.mono HB3.out.size))
      clear hb
      go_wp2_with fail
      go_ret
      exact ⟨rfl, HB6.out⟩
  have a0 : 1 ≤ a := by omega
  have a1 : a ≤ 1000000 := by omega
  have HA := hidden (fun W => new_ok a W a0 a1)
  have d0 : decide (a < 1) = false := decide_eq_false (by omega)
  have d1 : decide (1000000 < a) = false := decide_eq_false (by omega)
  clear ha
  go_wp2_with fail
  refine (HA.out _).mono ?_
  rintro e w5 ⟨rfl, hl, hb⟩
  obtain ⟨x, hx⟩ : ∃ x, w3.heap.size = x := ⟨_, rfl⟩
  have HL5 : Hid (LAt w5 x (st0 a)) := by rw [← hx]; exact hl
  have HX : Hid (w.heap.size ≤ x) := by rw [← hx]; exact hidden HB3.out.size
  have HB5 : Hid (Below w.heap.size w w5) := HB3.out.trans (hb.mono HB3.out.size)
  rw [hx]
  clear hl hb HA HB3 hx
  by_cases hbb : b < 1 ∨ 1000000 < b
  · have HB := hidden (fun W => new_err b W hbb)
    rw [errv_pos (by decide)] at HB
    by_cases hb0 : b < 1
    · have d2 : decide (b < 1) = true := decide_eq_true hb0
      clear hbb
      go_wp2_with fail
      refine (HB.out _).mono ?_
      rintro e w6 ⟨rfl, hw⟩
      obtain rfl := hw.symm
      go_wp2_with fail
      go_ret
      exact ⟨rfl, HB5.out⟩
    · have d2 : decide (b < 1) = false := decide_eq_false hb0
      have d3 : decide (1000000 < b) = true := decide_eq_true (by omega)
      clear hbb
      go_wp2_with fail
      refine (HB.out _).mono ?_
      rintro e w6 ⟨rfl, hw⟩
      obtain rfl := hw.symm
      go_wp2_with fail
      go_ret
      exact ⟨rfl, HB5.out⟩
  have b0 : 1 ≤ b := by omega
  have b1 : b ≤ 1000000 := by omega
  have HB := hidden (fun W => new_ok b W b0 b1)
  clear hbb
  go_wp2_with fail
  refine (HB.out _).mono ?_
  rintro e w6 ⟨rfl, hl, hb⟩
  have HT : Hid (TSt w w6 x w5.heap.size (st0 a) (st0 b)) := by
    have := L6.lt HL5.out
    exact ⟨HB5.out.trans (hb.mono HB5.out.size), HX.out, HB5.out.size, by omega, HL5.out.below hb, hl⟩
  obtain ⟨y, hy⟩ : ∃ y, w5.heap.size = y := ⟨_, rfl⟩
  rw [hy] at HT
  rw [hy]
  clear hl hb HB hy HL5 HB5 HX
  by_cases h9 : 999000 < b
  · have d3 : decide (999000 < b) = true := decide_eq_true h9
    have HBw := hidden HT.out.bel
    clear HT
    go_wp2_with fail
    go_ret
    exact ⟨rfl, HBw.out⟩
  have d3 : decide (999000 < b) = false := decide_eq_false h9
  have HX1 : Hid (∀ W, TSt w W x y (st0 a) (st0 b) → Calls Try.prog 5 #[.pointer (some ⟨x, 0, none⟩), .int .i64 0] W fun e w' => ∃ g, e = .returned (.tuple #[.slice (some ⟨g, 0, none⟩) 3 3, .nilIface]) ∧ Hid (MSt w w' x y ⟨0, a, 1, 0, 0, 0⟩ (st0 b) (.slice none 0 0) (.slice none 0 0) 0 0 a b b 0 ∧ Msg w' g 1 a 0)) := by
    intro W hW
    have ht : tf (st0 a).nw 0 = 0 := tf_ok (by omega) (by omega) (Int.le_refl _)
    have hs : (st0 a).st ≠ 2 := by simp [st0]
    have hi := inv_opn (inv_st0 a0 a1) (oF_ok ht hs)
    refine (x_open hW 0).mono ?_
    rintro e w' ⟨v, rfl, h1, h2, _⟩
    rw [oR_ok ht hs] at h1 h2
    rw [oF_ok ht hs]
    obtain ⟨g, rfl, h3⟩ := out_some h2
    exact ⟨g, rfl, ⟨h1, hi, inv_st0 b0 b1, rfl, rfl, Int.le_refl _, Int.le_refl _, fun e => absurd e (by simp), fun e => absurd e (by simp [st0]), Box.nil _ _ _ _, Box.nil _ _ _ _, fun j hj => by simp [Value.ownBlock] at hj⟩, h3⟩
  go_wp2_with fail
  refine (HX1.out _ HT.out).mono ?_
  rintro e w7 ⟨g7, rfl, H7⟩
  clear HT HX1 d0 d1 d3
  have HB7 : Hid (w.heap.size ≤ w7.heap.size) := hidden H7.out.1.st.bel.size
  go_wp2_with (at_builtin; refine wpList_append_lies _ rfl _ _ 22 rfl w.heap.size 28 i0 _ 1 24 Try.underlying22 hii hz0 hz1 hz2 rfl (by decide) _ 0 [] rfl (World.ownsRow_nil _ _ _ _) ⟨w7.heap.size, 0, none⟩ 1 1 [.slice (some ⟨g7, 0, none⟩) 3 3] rfl rfl (World.news_of_block (cs := #[.slice (some ⟨g7, 0, none⟩) 3 3]) (t := 28) (fr := (0, 0)) (heap_alloc_new w7 _)) ?c2 (by omega) ?b1 ?b2 ?b3 (w7.heap.size + 1) (by simp) ?next)
  case c2 => intro u hu'; simp at hu'; subst hu'; rfl
  case b1 => unfold maxLen; omega
  case b2 => omega
  case b3 => have := HB7.out; simp; omega
  intro gg cap8 w8 hown8 hgrow8 hat8 hlt8
  have HM0 : Hid (MSt w w8 x y ⟨0, a, 1, 0, 0, 0⟩ (st0 b) (.slice none 0 0) (.slice (some ⟨gg, 0, none⟩) 1 cap8) 0 1 a b b 0) :=
    MSt.sayY (xs := []) H7.out.1 (World.ownsRow_nil _ _ _ _) (fun j hj => absurd hj (by omega)) H7.out.2 (by omega) (by omega) (by omega) (by omega) (by omega) (by omega) hown8 hgrow8 hat8
  clear hown8 hgrow8 hat8 hlt8 H7 HB7
  go_wp2_with fail
  go_loopg [1, 15, 17, 18, 19, 23] 60 (fun g b' y' tx' ty' n' i' wr => ∃ (i nx ny : Nat) (B nw : Int) (Y : Nat) (ta ua : Option Addr) (tc uc : Nat) (s t : Lk), i + g = 60 ∧ b' = .int .i64 B ∧ y' = .pointer (some ⟨Y, 0, none⟩) ∧ tx' = .slice ta nx tc ∧ ty' = .slice ua ny uc ∧ n' = .int .i64 nw ∧ i' = .int .i64 (i : Int) ∧ 0 ≤ nw ∧ nw ≤ 20 * (i : Int) ∧ b ≤ B ∧ B ≤ 999000 + (i : Int) ∧ nx ≤ i ∧ ny ≤ i + 1 ∧ Hid (MSt w wr x Y s t (.slice ta nx tc) (.slice ua ny uc) nx ny a B b nw))
  case atStart => exact ⟨0, 0, 1, b, 0, y, none, some ⟨gg, 0, none⟩, 0, cap8, _, _, by omega, rfl, rfl, rfl, rfl, rfl, rfl, by omega, by omega, by omega, by omega, by omega, by omega, HM0⟩
  case round =>
    obtain ⟨i, nx, ny, B, nw, Y, ta, ua, tc, uc, s, t, hig, rfl, rfl, rfl, rfl, rfl, rfl, hn0, hn1, hB0, hB1, hnx, hny, HS⟩ := hrel
    clear HM0
    obtain ⟨qb, hqb⟩ : ∃ qb : Bool, decide (i < ls ∧ i < 60) = qb := ⟨_, rfl⟩
    have HQb := hidden hqb
    clear hqb
    go_upto_region 20 with fail
    go_cut [154] from 147 to 154 (fun c wx => c = .bool qb ∧ wr = wx)
    case first =>
      by_cases q1 : i < ls
      · have q1z : (i : Int) < (ls : Int) := by omega
        have e := hidden (by rw [← HQb.out]; simp [q1]; omega : decide ((i : Int) < 60) = qb)
        clear HQb
        go_wp2_with fail
        go_meet
        exact ⟨congrArg Value.bool e.out, rfl⟩
      · have q1z : ¬ (i : Int) < (ls : Int) := by omega
        have e := hidden (by rw [← HQb.out]; simp [q1] : false = qb)
        clear HQb
        go_wp2_with fail
        go_meet
        exact ⟨congrArg Value.bool e.out, rfl⟩
    obtain ⟨rfl, rfl⟩ := hcut
    cases qb with
    | false =>
      clear HQb
      as_aux_lemma =>
        skip
        have hw40 : IntKind.i64.wrap (nw + 40) = nw + 40 := by rw [IntKind.wrap_i64]; omega
        obtain ⟨nf, hnf⟩ : ∃ nf, nw + 40 = nf := ⟨_, rfl⟩
        rw [hnf] at hw40
        have HNf := hidden hnf
        have hf0 : 0 ≤ nf := by omega
        have hf1 : nf ≤ 1000000 := by omega
        have HE : Hid (s.nw + 30 ≤ nf ∧ t.nw + 30 ≤ nf) := by have h1 := HS.out.ns; have h2 := HS.out.nt; exact hidden ⟨by omega, by omega⟩
        have HS2 : Hid (MSt w wr x Y s t (.slice ta nx tc) (.slice ua ny uc) nx ny a B b nf) := HS.out.later (by omega)
        have B0 : 1 ≤ B := by omega
        have B1 : B ≤ 1000000 := by omega
        clear hnf HS
        go_wp2_with fail
        rw [HNf.out]
        refine (m_tick_x HS2.out hf0 hf1).mono ?_
        rintro e w9 ⟨v9, rfl, H9⟩
        clear HS2
        obtain ⟨s', h9, _, hs9⟩ := H9.out
        have H9s := hidden (hs9 HE.out.1)
        have H9m := hidden h9
        clear h9 hs9 H9
        go_wp2_with fail
        refine (m_tick_y H9m.out hB0 hf0 hf1).mono ?_
        rintro e w10 ⟨v10, rfl, H10⟩
        clear H9m
        obtain ⟨t', h10, _, ht10⟩ := H10.out
        have H10t := hidden (ht10 HE.out.2)
        have H10m := hidden h10
        clear h10 ht10 H10
        obtain ⟨k1, _, k3, _⟩ := H10m.out.cells
        have e1 : (s'.st == 2) = false := by have := H9s.out.1; simpa using this
        have e2 : (t'.st == 2) = false := by have := H10t.out.1; simpa using this
        obtain ⟨S, hS⟩ : ∃ S, s'.st = S := ⟨_, rfl⟩
        obtain ⟨T, hT⟩ : ∃ T, t'.st = T := ⟨_, rfl⟩
        rw [hS] at k1 e1
        rw [hT] at k3 e2
        clear hS hT
        go_wp2_with fail
        refine (state_calls x S _ k1).mono ?_
        rintro e w11 ⟨rfl, hw⟩
        obtain rfl := hw.symm
        go_wp2_with fail
        refine (state_calls Y T _ k3).mono ?_
        rintro e w11 ⟨rfl, hw⟩
        obtain rfl := hw.symm
        go_wp2_with fail
        refine (m_open_y H10m.out H10t.out.1 hB0 hf0 hf1).mono ?_
        rintro e w12 ⟨g12, rfl, H12⟩
        clear H10m k1 k3
        have HT12 : Hid (t'.me = B) := hidden (H12.out.1.mt)
        go_wp2_with fail
        refine (m_last_x H12.out.1 H9s.out.1 H12.out.2 B0 B1 hf0 hf1).mono ?_
        rintro e w13 ⟨g13, rfl, H13⟩
        clear H12
        go_wp2_with fail
        refine (m_last_y H13.out.1 rfl (by exact HT12.out) rfl (by exact H10t.out.2) H13.out.2 a0 a1 B0 B1 hf0 hf1).mono ?_
        rintro e w14 ⟨v14, rfl, H14⟩
        clear H13
        obtain ⟨r1, r2, r3, r4⟩ := last_cells H14.out
        have HB14 := hidden H14.out.bel
        clear H14
        go_wp2_with fail
        refine (state_calls x 2 _ r1).mono ?_
        rintro e w15 ⟨rfl, hw⟩
        obtain rfl := hw.symm
        go_wp2_with fail
        refine (state_calls Y 2 _ r3).mono ?_
        rintro e w15 ⟨rfl, hw⟩
        obtain rfl := hw.symm
        go_wp2_with fail
        refine (other_calls x B _ r2).mono ?_
        rintro e w15 ⟨rfl, hw⟩
        obtain rfl := hw.symm
        go_wp2_with fail
        refine (other_calls Y a _ r4).mono ?_
        rintro e w15 ⟨rfl, hw⟩
        obtain rfl := hw.symm
        go_wp2_with fail
        go_ret
        exact ⟨rfl, HB14.out⟩
    | true =>
    obtain ⟨hend, h60⟩ : i < ls ∧ i < 60 := by simpa using HQb.out
    clear HQb
    have hiz : (i : Int) < (ls : Int) := by omega
    have h60z : (i : Int) < 60 := by omega
    obtain ⟨sb, so, a', l', c', rfl, hsb, hsc, hl', hrow⟩ := HRs.out i hend
    have HSc := hidden hsc
    have HRow := hidden hrow
    clear hsc hrow
    obtain ⟨vb, hvb⟩ : ∃ vb, wr.heap.size = vb := ⟨_, rfl⟩
    have HV0 : Hid (V3 (wr.alloc (.cells #[.int .i64 0, .int .i64 0, .int .i64 0] 33)) vb 0 0 0) := by rw [← hvb]; exact heap_alloc_new wr _
    have HB0 : Hid (Below vb wr (wr.alloc (.cells #[.int .i64 0, .int .i64 0, .int .i64 0] 33))) := by rw [← hvb]; exact hidden ((Below.refl _ _).alloc (Nat.le_refl _) _)
    have HPs : Hid (∀ W, Below vb wr W → MSt w W x Y s t (.slice ta nx tc) (.slice ua ny uc) nx ny a B b nw) := by rw [← hvb]; exact hidden (fun W hb => HS.out.below hb)
    have HVb := hidden hvb
    clear hvb HS
    go_wp2_with fail
    rw [HVb.out]
    go_loopg [25] 3 (fun g j' wq => ∃ (j : Nat) (v0 v1 v2 : Int), j + g = 3 ∧ j' = .int .i64 (j : Int) ∧ Hid (V3 wq vb v0 v1 v2 ∧ Below vb wr wq))
    case atStart => exact ⟨0, 0, 0, 0, by omega, rfl, HV0.out, HB0.out⟩
    case round =>
      obtain ⟨wo, ewo⟩ : ∃ x, x = wr := ⟨_, rfl⟩
      obtain ⟨j, v0, v1, v2, hjg, rfl, HJ⟩ := hrel
      clear HV0 HB0 ewo wo
      have HQ := hidden (HPs.out _ HJ.out.2)
      have cs1 := (HQ.out.st.bel.cell (p := ⟨sb, so + i, none⟩) hsb).trans HSc.out
      obtain ⟨jb, hjb⟩ : ∃ jb : Bool, decide (j < l' ∧ j < 3) = jb := ⟨_, rfl⟩
      have HJb := hidden hjb
      clear hjb
      go_upto_region 24 with fail
      go_cut [167] from 157 to 167 (fun c wx => c = .bool jb ∧ wx = wr)
      case first =>
        by_cases q1 : j < l'
        · have q1z : (j : Int) < (l' : Int) := by omega
          have e := hidden (by rw [← HJb.out]; simp [q1]; omega : decide ((j : Int) < 3) = jb)
          clear HJb
          go_wp2_with fail
          go_meet
          exact ⟨congrArg Value.bool e.out, rfl⟩
        · have q1z : ¬ (j : Int) < (l' : Int) := by omega
          have e := hidden (by rw [← HJb.out]; simp [q1] : false = jb)
          clear HJb
          go_wp2_with fail
          go_meet
          exact ⟨congrArg Value.bool e.out, rfl⟩
      case rest =>
        obtain ⟨rfl, rfl⟩ := hcut
        cases jb with
        | true =>
          obtain ⟨hj1, hj3⟩ : j < l' ∧ j < 3 := by simpa using HJb.out
          clear HJb
          have hjz : (j : Int) < (l' : Int) := by omega
          have hj3z : (j : Int) < 3 := by omega
          have hj0 : (0 : Int) ≤ (j : Int) := by omega
          obtain ⟨xb, xo, z, rfl, hxb, hxc⟩ := HRow.out j hj1
          have cx := (HQ.out.st.bel.cell (p := ⟨xb, xo + j, none⟩) hxb).trans hxc
          obtain ⟨z2, cy⟩ := v3_cell HJ.out.1 j hj3
          have fy := v3_free HJ.out.1 j
          obtain ⟨u0, u1, u2, hv3⟩ := v3_set HJ.out.1 j hj3 z
          have HN3 := hidden hv3
          have HBn := hidden (HJ.out.2.setCell (p := ⟨vb, j, none⟩) (Nat.le_refl _) (.int .i64 z))
          clear hxc hv3 HJ HQ
          go_wp2_with fail
          go_roundg (3 - (j + 1))
          case measure => omega
          case rel => exact ⟨j + 1, u0, u1, u2, by omega, by go_num, HN3.out, HBn.out⟩
        | false =>
          clear HJb
          obtain ⟨c0, c1, c2⟩ := v3_cells HJ.out.1
          clear HJ HPs HRow HSc cs1 hsb
          go_upto_block 4 with fail
          go_cut [1, 15, 19, 26, 27, 28] from 179 to 273 (fun b' y' n' o' e' l' wx => CutR w wx x (.slice ta nx tc) (.slice ua ny uc) nx ny a b B nw b' y' n' o' e' l')
          case first =>
            as_aux_lemma =>
              by_cases z0 : v0 = 0
              case pos =>
                subst z0
                by_cases q0 : 0 ≤ v1
                case neg =>
                  have e0 : decide (0 ≤ v1) = false := decide_eq_false q0
                  go_wp2_with fail
                  go_meet
                  exact ⟨B, Y, nw, _, true, s, t, rfl, rfl, rfl, rfl, rfl, rfl, by omega, by omega, by omega, by omega, hidden ⟨HQ.out, .inl rfl⟩⟩
                have e0 : decide (0 ≤ v1) = true := decide_eq_true q0
                by_cases q1 : v1 < (nx : Int)
                case neg =>
                  have e1 : decide (v1 < (nx : Int)) = false := decide_eq_false q1
                  go_wp2_with fail
                  go_meet
                  exact ⟨B, Y, nw, _, true, s, t, rfl, rfl, rfl, rfl, rfl, rfl, by omega, by omega, by omega, by omega, hidden ⟨HQ.out, .inl rfl⟩⟩
                have e1 : decide (v1 < (nx : Int)) = true := decide_eq_true q1
                obtain ⟨k1, rfl⟩ : ∃ k1 : Nat, v1 = (k1 : Int) := ⟨v1.toNat, by omega⟩
                obtain ⟨gb, cc, g, k, f, u, ev, hcr, hm, hk0, hk1, hf0, hf1, hu0, hu1⟩ := HQ.out.bx.read (j := k1) (by omega)
                simp only [Value.slice.injEq, true_and] at ev
                obtain ⟨rfl, rfl⟩ := ev
                have HC := hidden (m_hear_x HQ.out hm hk0 hk1 hf0 hf1 hu0 hu1 b0 (by omega) hn0 (by omega))
                clear hm hk0 hk1 hf0 hf1 hu0 hu1
                go_wp2_with fail
                refine HC.out.mono ?_
                rintro e w9 ⟨v9, rfl, H9⟩
                obtain ⟨s9, h9, f9⟩ := H9.out
                have H9m := hidden (And.intro h9 f9)
                clear h9 f9 H9 HC hcr
                go_wp2_with fail
                go_meet
                exact ⟨B, Y, nw, _, true, s9, t, rfl, rfl, rfl, rfl, rfl, rfl, by omega, by omega, by omega, by omega, H9m⟩
              have n0 : (v0 == 0) = false := by simpa using z0
              by_cases z1 : v0 = 1
              case pos =>
                subst z1
                by_cases q0 : 0 ≤ v1
                case neg =>
                  have e0 : decide (0 ≤ v1) = false := decide_eq_false q0
                  go_wp2_with fail
                  go_meet
                  exact ⟨B, Y, nw, _, true, s, t, rfl, rfl, rfl, rfl, rfl, rfl, by omega, by omega, by omega, by omega, hidden ⟨HQ.out, .inl rfl⟩⟩
                have e0 : decide (0 ≤ v1) = true := decide_eq_true q0
                by_cases q1 : v1 < (nx : Int)
                case neg =>
                  have e1 : decide (v1 < (nx : Int)) = false := decide_eq_false q1
                  go_wp2_with fail
                  go_meet
                  exact ⟨B, Y, nw, _, true, s, t, rfl, rfl, rfl, rfl, rfl, rfl, by omega, by omega, by omega, by omega, hidden ⟨HQ.out, .inl rfl⟩⟩
                have e1 : decide (v1 < (nx : Int)) = true := decide_eq_true q1
                obtain ⟨k1, rfl⟩ : ∃ k1 : Nat, v1 = (k1 : Int) := ⟨v1.toNat, by omega⟩
                obtain ⟨gb, cc, g, k, f, u, ev, hcr, hm, hk0, hk1, hf0, hf1, hu0, hu1⟩ := HQ.out.bx.read (j := k1) (by omega)
                simp only [Value.slice.injEq, true_and] at ev
                obtain ⟨rfl, rfl⟩ := ev
                have HC := hidden (m_hear_x HQ.out hm hk0 hk1 hf0 hf1 hu0 hu1 b0 (by omega) hn0 (by omega))
                clear hm hk0 hk1 hf0 hf1 hu0 hu1
                go_wp2_with fail
                refine HC.out.mono ?_
                rintro e w9 ⟨v9, rfl, H9⟩
                obtain ⟨s9, h9, f9⟩ := H9.out
                have H9m := hidden (And.intro h9 f9)
                clear h9 f9 H9 HC hcr
                go_wp2_with fail
                go_meet
                exact ⟨B, Y, nw, _, true, s9, t, rfl, rfl, rfl, rfl, rfl, rfl, by omega, by omega, by omega, by omega, H9m⟩
              have n1 : (v0 == 1) = false := by simpa using z1
              by_cases z2 : v0 = 2
              case pos =>
                subst z2
                by_cases q0 : 0 ≤ v1
                case neg =>
                  have e0 : decide (0 ≤ v1) = false := decide_eq_false q0
                  go_wp2_with fail
                  go_meet
                  exact ⟨B, Y, nw, _, false, s, t, rfl, rfl, rfl, rfl, rfl, rfl, by omega, by omega, by omega, by omega, hidden ⟨HQ.out, .inl rfl⟩⟩
                have e0 : decide (0 ≤ v1) = true := decide_eq_true q0
                by_cases q1 : v1 < (ny : Int)
                case neg =>
                  have e1 : decide (v1 < (ny : Int)) = false := decide_eq_false q1
                  go_wp2_with fail
                  go_meet
                  exact ⟨B, Y, nw, _, false, s, t, rfl, rfl, rfl, rfl, rfl, rfl, by omega, by omega, by omega, by omega, hidden ⟨HQ.out, .inl rfl⟩⟩
                have e1 : decide (v1 < (ny : Int)) = true := decide_eq_true q1
                obtain ⟨k1, rfl⟩ : ∃ k1 : Nat, v1 = (k1 : Int) := ⟨v1.toNat, by omega⟩
                obtain ⟨gb, cc, g, k, f, u, ev, hcr, hm, hk0, hk1, hf0, hf1, hu0, hu1⟩ := HQ.out.by'.read (j := k1) (by omega)
                simp only [Value.slice.injEq, true_and] at ev
                obtain ⟨rfl, rfl⟩ := ev
                have HC := hidden (m_hear_y HQ.out hm hk0 hk1 hf0 hf1 hu0 hu1 a0 a1 hB0 hn0 (by omega))
                clear hm hk0 hk1 hf0 hf1 hu0 hu1
                go_wp2_with fail
                refine HC.out.mono ?_
                rintro e w9 ⟨v9, rfl, H9⟩
                obtain ⟨s9, h9, f9⟩ := H9.out
                have H9m := hidden (And.intro h9 f9)
                clear h9 f9 H9 HC hcr
                go_wp2_with fail
                go_meet
                exact ⟨B, Y, nw, _, false, s, s9, rfl, rfl, rfl, rfl, rfl, rfl, by omega, by omega, by omega, by omega, H9m⟩
              have n2 : (v0 == 2) = false := by simpa using z2
              by_cases z3 : v0 = 3
              case pos =>
                subst z3
                by_cases q0 : 0 ≤ v1
                case neg =>
                  have e0 : decide (0 ≤ v1) = false := decide_eq_false q0
                  go_wp2_with fail
                  go_meet
                  exact ⟨B, Y, nw, _, false, s, t, rfl, rfl, rfl, rfl, rfl, rfl, by omega, by omega, by omega, by omega, hidden ⟨HQ.out, .inl rfl⟩⟩
                have e0 : decide (0 ≤ v1) = true := decide_eq_true q0
                by_cases q1 : v1 < (ny : Int)
                case neg =>
                  have e1 : decide (v1 < (ny : Int)) = false := decide_eq_false q1
                  go_wp2_with fail
                  go_meet
                  exact ⟨B, Y, nw, _, false, s, t, rfl, rfl, rfl, rfl, rfl, rfl, by omega, by omega, by omega, by omega, hidden ⟨HQ.out, .inl rfl⟩⟩
                have e1 : decide (v1 < (ny : Int)) = true := decide_eq_true q1
                obtain ⟨k1, rfl⟩ : ∃ k1 : Nat, v1 = (k1 : Int) := ⟨v1.toNat, by omega⟩
                obtain ⟨gb, cc, g, k, f, u, ev, hcr, hm, hk0, hk1, hf0, hf1, hu0, hu1⟩ := HQ.out.by'.read (j := k1) (by omega)
                simp only [Value.slice.injEq, true_and] at ev
                obtain ⟨rfl, rfl⟩ := ev
                have HC := hidden (m_hear_y HQ.out hm hk0 hk1 hf0 hf1 hu0 hu1 a0 a1 hB0 hn0 (by omega))
                clear hm hk0 hk1 hf0 hf1 hu0 hu1
                go_wp2_with fail
                refine HC.out.mono ?_
                rintro e w9 ⟨v9, rfl, H9⟩
                obtain ⟨s9, h9, f9⟩ := H9.out
                have H9m := hidden (And.intro h9 f9)
                clear h9 f9 H9 HC hcr
                go_wp2_with fail
                go_meet
                exact ⟨B, Y, nw, _, false, s, s9, rfl, rfl, rfl, rfl, rfl, rfl, by omega, by omega, by omega, by omega, H9m⟩
              have n3 : (v0 == 3) = false := by simpa using z3
              by_cases z4 : v0 = 4
              case pos =>
                subst z4
                by_cases q0 : 0 ≤ v2
                case neg =>
                  have e0 : decide (0 ≤ v2) = false := decide_eq_false q0
                  go_wp2_with fail
                  refine (m_tick_x HQ.out hn0 (by omega)).mono ?_
                  rintro e w9 ⟨v9, rfl, H9⟩
                  obtain ⟨s9, h9, f9, _⟩ := H9.out
                  have H9m := hidden (And.intro h9 f9)
                  clear h9 f9 H9
                  go_wp2_with fail
                  go_meet
                  exact ⟨B, Y, nw, _, true, s9, t, rfl, rfl, rfl, rfl, rfl, rfl, by omega, by omega, by omega, by omega, H9m⟩
                have e0 : decide (0 ≤ v2) = true := decide_eq_true q0
                by_cases q1 : v2 < 20
                case neg =>
                  have e1 : decide (v2 < 20) = false := decide_eq_false q1
                  go_wp2_with fail
                  refine (m_tick_x HQ.out hn0 (by omega)).mono ?_
                  rintro e w9 ⟨v9, rfl, H9⟩
                  obtain ⟨s9, h9, f9, _⟩ := H9.out
                  have H9m := hidden (And.intro h9 f9)
                  clear h9 f9 H9
                  go_wp2_with fail
                  go_meet
                  exact ⟨B, Y, nw, _, true, s9, t, rfl, rfl, rfl, rfl, rfl, rfl, by omega, by omega, by omega, by omega, H9m⟩
                have e1 : decide (v2 < 20) = true := decide_eq_true q1
                have hw2 : IntKind.i64.wrap (nw + v2) = nw + v2 := by rw [IntKind.wrap_i64]; omega
                obtain ⟨nn, hnn⟩ : ∃ nn, nw + v2 = nn := ⟨_, rfl⟩
                rw [hnn] at hw2
                have HNn := hidden hnn
                have hm0 : 0 ≤ nn := by omega
                have hm1 : nn ≤ 1000000 := by omega
                have hm2 : nw ≤ nn := by omega
                have hm3 : nn ≤ nw + 20 := by omega
                clear hnn
                go_wp2_with fail
                rw [HNn.out]
                refine (m_tick_x (HQ.out.later hm2) hm0 hm1).mono ?_
                rintro e w9 ⟨v9, rfl, H9⟩
                obtain ⟨s9, h9, f9, _⟩ := H9.out
                have H9m := hidden (And.intro h9 f9)
                clear h9 f9 H9
                go_wp2_with fail
                go_meet
                exact ⟨B, Y, nn, _, true, s9, t, rfl, rfl, rfl, rfl, rfl, rfl, by omega, by omega, hm2, hm3, H9m⟩
              have n4 : (v0 == 4) = false := by simpa using z4
              by_cases z5 : v0 = 5
              case pos =>
                subst z5
                go_wp2_with fail
                refine (m_tick_y HQ.out hB0 hn0 (by omega)).mono ?_
                rintro e w9 ⟨v9, rfl, H9⟩
                obtain ⟨s9, h9, f9, _⟩ := H9.out
                have H9m := hidden (And.intro h9 f9)
                clear h9 f9 H9
                go_wp2_with fail
                go_meet
                exact ⟨B, Y, nw, _, false, s, s9, rfl, rfl, rfl, rfl, rfl, rfl, by omega, by omega, by omega, by omega, H9m⟩
              have n5 : (v0 == 5) = false := by simpa using z5
              by_cases z6 : v0 = 6
              case pos =>
                subst z6
                have hw2 : IntKind.i64.wrap (B + 1) = B + 1 := by rw [IntKind.wrap_i64]; omega
                have HC := hidden (m_new_y HQ.out (by omega) (by omega) hn0)
                obtain ⟨Bn, hBn⟩ : ∃ Bn, B + 1 = Bn := ⟨_, rfl⟩
                rw [hBn] at hw2 HC
                have HBn := hidden hBn
                have hm0 : B ≤ Bn := by omega
                have hm1 : Bn ≤ B + 1 := by omega
                have hm2 : b ≤ Bn := by omega
                clear hBn
                go_wp2_with fail
                rw [HBn.out]
                refine HC.out.mono ?_
                rintro e w9 ⟨y9, rfl, H9⟩
                clear HC
                go_wp2_with fail
                refine (m_open_y H9.out (by simp [st0]) hm2 hn0 (by omega)).mono ?_
                rintro e w10 ⟨g10, rfl, H10⟩
                have H10m : Hid (MSt w w10 x y9 s ⟨nw, Bn, 1, 0, 0, nw⟩ (.slice ta nx tc) (.slice ua ny uc) nx ny a Bn b nw ∧ Fine w10 (.slice (some ⟨g10, 0, none⟩) 3 3) b Bn) := ⟨H10.out.1, .inr ⟨g10, 1, Bn, 0, rfl, H10.out.2, by omega, by omega, hm2, Int.le_refl _, by omega, by omega⟩⟩
                clear H9 H10
                go_wp2_with fail
                go_meet
                exact ⟨Bn, y9, nw, _, false, s, _, rfl, rfl, rfl, rfl, rfl, rfl, hm0, hm1, by omega, by omega, H10m⟩
              have n6 : (v0 == 6) = false := by simpa using z6
              clear z0 z1 z2 z3 z4 z5 z6
              go_wp2_with fail
              go_meet
              exact ⟨B, Y, nw, _, true, s, t, rfl, rfl, rfl, rfl, rfl, rfl, by omega, by omega, by omega, by omega, hidden ⟨HQ.out, .inl rfl⟩⟩
          case rest =>
            obtain ⟨B2, Y2, nw2, v, lf, s2, t2, rfl, rfl, rfl, rfl, rfl, rfl, g0, g1, g2, g3, HX⟩ := hcut
            obtain ⟨wd, rfl⟩ : ∃ x, x = wc := ⟨_, rfl⟩
            have HM1 := hidden HX.out.1
            clear HQ c0 c1 c2
            as_aux_lemma =>
              go_upto_region 55 with fail
              go_cut [281] from 274 to 281 (fun c wx => QR v lf c ∧ wd = wx)
              case first =>
                rcases HX.out.2 with hv | ⟨g, k, f, u, hv, hg⟩
                · subst hv
                  clear HX HM1
                  go_wp2_with fail
                  go_meet
                  exact ⟨⟨false, rfl, hidden ⟨fun h => (by cases h), fun _ => .inl rfl⟩⟩, rfl⟩
                · subst hv
                  clear HX HM1 hg
                  cases lf with
                  | true =>
                    go_wp2_with fail
                    go_meet
                    exact ⟨⟨true, rfl, hidden ⟨fun _ => ⟨by simp, rfl⟩, fun h => (by cases h)⟩⟩, rfl⟩
                  | false =>
                    go_wp2_with fail
                    go_meet
                    exact ⟨⟨false, rfl, hidden ⟨fun h => (by cases h), fun _ => .inr rfl⟩⟩, rfl⟩
              obtain ⟨⟨q, rfl, HQ2⟩, rfl⟩ := hcut
              go_upto_if 281 with fail
              go_cut [17, 18] from 282 to 292 (fun tx' ty' wx => AR w wx x Y2 s2 t2 nx ny a B2 b nw2 tx' ty')
              case first =>
                cases q with
                | true =>
                  obtain ⟨hv0, rfl⟩ := HQ2.out.1 rfl
                  rcases HX.out.2 with hv | ⟨g, k, f, u, hv, hg⟩
                  · exact absurd hv hv0
                  subst hv
                  clear HX HQ2 hv0
                  obtain ⟨hm, hk0, hk1, hf0, hf1, hu0, hu1⟩ := hg
                  have HF := hidden (And.intro hm (And.intro hk0 (And.intro hk1 (And.intro hf0 (And.intro hf1 (And.intro hu0 hu1))))))
                  clear hm hk0 hk1 hf0 hf1 hu0 hu1
                  simp only [if_true] at HF
                  obtain ⟨xs, hown, hms⟩ := HM1.out.by'.row
                  have HOw := hidden hown
                  have HMs := hidden hms
                  have HB7 : Hid (w.heap.size ≤ wd.heap.size) := hidden HM1.out.st.bel.size
                  clear hown hms
                  go_wp2_with (at_builtin; refine wpList_append_lies _ rfl _ _ 22 rfl w.heap.size 28 i0 _ 1 24 Try.underlying22 hii hz0 hz1 hz2 rfl (by decide) _ ny xs rfl (HOw.out.alloc _) ⟨wd.heap.size, 0, none⟩ 1 1 [.slice (some ⟨g, 0, none⟩) 3 3] rfl rfl (World.news_of_block (cs := #[.slice (some ⟨g, 0, none⟩) 3 3]) (t := 28) (fr := (0, 0)) (heap_alloc_new wd _)) ?c2u (by omega) ?b1u ?b2u ?b3u (wd.heap.size + 1) (by simp) ?nextu)
                  case c2u => intro u hu'; simp at hu'; subst hu'; rfl
                  case b1u => unfold maxLen; omega
                  case b2u => omega
                  case b3u => have := HB7.out; simp; omega
                  intro gg cap8 w8 hown8 hgrow8 hat8 hlt8
                  have HM : Hid (MSt w w8 x Y2 s2 t2 (.slice ta nx tc) (.slice (some ⟨gg, 0, none⟩) (ny + 1) cap8) nx (ny + 1) a B2 b nw2) := MSt.sayY HM1.out HOw.out HMs.out HF.out.1 HF.out.2.1 HF.out.2.2.1 HF.out.2.2.2.1 HF.out.2.2.2.2.1 HF.out.2.2.2.2.2.1 HF.out.2.2.2.2.2.2 hown8 hgrow8 hat8
                  clear hown8 hgrow8 hat8 hlt8 HM1 HOw HMs HB7 HF
                  go_wp2_with fail
                  go_meet
                  exact ⟨ta, some ⟨gg, 0, none⟩, nx, ny + 1, tc, cap8, rfl, rfl, by omega, by omega, HM⟩
                | false =>
                  rcases HX.out.2 with hv | ⟨g, k, f, u, hv, hg⟩
                  · subst hv
                    clear HX HQ2
                    have HM := HM1
                    clear HM1
                    go_wp2_with fail
                    go_meet
                    exact ⟨ta, ua, nx, ny, tc, uc, rfl, rfl, by omega, by omega, HM⟩
                  obtain rfl : lf = false := by
                    rcases HQ2.out.2 rfl with h | h
                    · rw [hv] at h; simp at h
                    · exact h
                  subst hv
                  clear HX HQ2
                  obtain ⟨hm, hk0, hk1, hf0, hf1, hu0, hu1⟩ := hg
                  have HF := hidden (And.intro hm (And.intro hk0 (And.intro hk1 (And.intro hf0 (And.intro hf1 (And.intro hu0 hu1))))))
                  clear hm hk0 hk1 hf0 hf1 hu0 hu1
                  simp only [Bool.false_eq_true, if_false] at HF
                  obtain ⟨xs, hown, hms⟩ := HM1.out.bx.row
                  have HOw := hidden hown
                  have HMs := hidden hms
                  have HB7 : Hid (w.heap.size ≤ wd.heap.size) := hidden HM1.out.st.bel.size
                  clear hown hms
                  go_wp2_with (at_builtin; refine wpList_append_lies _ rfl _ _ 22 rfl w.heap.size 28 i0 _ 1 24 Try.underlying22 hii hz0 hz1 hz2 rfl (by decide) _ nx xs rfl (HOw.out.alloc _) ⟨wd.heap.size, 0, none⟩ 1 1 [.slice (some ⟨g, 0, none⟩) 3 3] rfl rfl (World.news_of_block (cs := #[.slice (some ⟨g, 0, none⟩) 3 3]) (t := 28) (fr := (0, 0)) (heap_alloc_new wd _)) ?c2v (by omega) ?b1v ?b2v ?b3v (wd.heap.size + 1) (by simp) ?nextv)
                  case c2v => intro u hu'; simp at hu'; subst hu'; rfl
                  case b1v => unfold maxLen; omega
                  case b2v => omega
                  case b3v => have := HB7.out; simp; omega
                  intro gg cap8 w8 hown8 hgrow8 hat8 hlt8
                  have HM : Hid (MSt w w8 x Y2 s2 t2 (.slice (some ⟨gg, 0, none⟩) (nx + 1) cap8) (.slice ua ny uc) (nx + 1) ny a B2 b nw2) := MSt.sayX HM1.out HOw.out HMs.out HF.out.1 HF.out.2.1 HF.out.2.2.1 HF.out.2.2.2.1 HF.out.2.2.2.2.1 HF.out.2.2.2.2.2.1 HF.out.2.2.2.2.2.2 hown8 hgrow8 hat8
                  clear hown8 hgrow8 hat8 hlt8 HM1 HOw HMs HB7 HF
                  go_wp2_with fail
                  go_meet
                  exact ⟨some ⟨gg, 0, none⟩, ua, nx + 1, ny, cap8, uc, rfl, rfl, by omega, by omega, HM⟩
              obtain ⟨ta2, ua2, nx2, ny2, tc2, uc2, rfl, rfl, hnx2, hny2, HM⟩ := hcut
              clear HX HQ2 HM1
              obtain ⟨we, rfl⟩ : ∃ x, x = wc := ⟨_, rfl⟩
              obtain ⟨k1, k2, k3, k4⟩ := HM.out.cells
              have HOs := hidden HM.out.os
              have HOt := hidden HM.out.ot
              have HOo := hidden HM.out.is.o0
              obtain ⟨S, hS⟩ : ∃ S, s2.st = S := ⟨_, rfl⟩
              obtain ⟨T, hT⟩ : ∃ T, t2.st = T := ⟨_, rfl⟩
              obtain ⟨ox, hox⟩ : ∃ ox, s2.ot = ox := ⟨_, rfl⟩
              obtain ⟨oy, hoy⟩ : ∃ oy, t2.ot = oy := ⟨_, rfl⟩
              rw [hS, hox] at HOs HOo
              rw [hT, hoy] at HOt
              rw [hS] at k1
              rw [hox] at k2
              rw [hT] at k3
              rw [hoy] at k4
              clear hS hT hox hoy
              by_cases qS : S = 2
              · obtain ⟨o1, o2⟩ := HOs.out qS
                have e1 : decide (ox < b) = false := decide_eq_false (by omega)
                have e2 : decide (B2 < ox) = false := decide_eq_false (by omega)
                subst qS
                clear HOs HOo o1 o2
                by_cases qT : T = 2
                · obtain rfl := HOt.out qT
                  subst qT
                  clear HOt
                  go_wp2_with fail
                  refine (state_calls x 2 _ k1).mono ?_
                  rintro e w20 ⟨rfl, hw⟩
                  obtain rfl := hw.symm
                  go_wp2_with fail
                  refine (other_calls x ox _ k2).mono ?_
                  rintro e w20 ⟨rfl, hw⟩
                  obtain rfl := hw.symm
                  go_wp2_with fail
                  refine (other_calls x ox _ k2).mono ?_
                  rintro e w20 ⟨rfl, hw⟩
                  obtain rfl := hw.symm
                  go_wp2_with fail
                  refine (state_calls Y2 2 _ k3).mono ?_
                  rintro e w20 ⟨rfl, hw⟩
                  obtain rfl := hw.symm
                  go_wp2_with fail
                  refine (other_calls Y2 _ _ k4).mono ?_
                  rintro e w20 ⟨rfl, hw⟩
                  obtain rfl := hw.symm
                  go_wp2_with fail
                  refine (state_calls x 2 _ k1).mono ?_
                  rintro e w20 ⟨rfl, hw⟩
                  obtain rfl := hw.symm
                  go_wp2_with fail
                  go_roundg (60 - (i + 1))
                  case measure => omega
                  case rel => exact ⟨i + 1, nx2, ny2, B2, nw2, Y2, ta2, ua2, tc2, uc2, s2, t2, by omega, rfl, rfl, rfl, rfl, rfl, by go_num, by omega, by omega, by omega, by omega, by omega, by omega, HM⟩
                · have e3 : (T == 2) = false := by simpa using qT
                  clear HOt qT
                  go_wp2_with fail
                  refine (state_calls x 2 _ k1).mono ?_
                  rintro e w20 ⟨rfl, hw⟩
                  obtain rfl := hw.symm
                  go_wp2_with fail
                  refine (other_calls x ox _ k2).mono ?_
                  rintro e w20 ⟨rfl, hw⟩
                  obtain rfl := hw.symm
                  go_wp2_with fail
                  refine (other_calls x ox _ k2).mono ?_
                  rintro e w20 ⟨rfl, hw⟩
                  obtain rfl := hw.symm
                  go_wp2_with fail
                  refine (state_calls Y2 T _ k3).mono ?_
                  rintro e w20 ⟨rfl, hw⟩
                  obtain rfl := hw.symm
                  go_wp2_with fail
                  refine (state_calls x 2 _ k1).mono ?_
                  rintro e w20 ⟨rfl, hw⟩
                  obtain rfl := hw.symm
                  go_wp2_with fail
                  go_roundg (60 - (i + 1))
                  case measure => omega
                  case rel => exact ⟨i + 1, nx2, ny2, B2, nw2, Y2, ta2, ua2, tc2, uc2, s2, t2, by omega, rfl, rfl, rfl, rfl, rfl, by go_num, by omega, by omega, by omega, by omega, by omega, by omega, HM⟩
              · have o1 := HOo.out qS
                subst o1
                have e1 : (S == 2) = false := by simpa using qS
                have e2 : (S != 2) = true := by simpa using qS
                clear HOs HOo qS
                by_cases qT : T = 2
                · obtain rfl := HOt.out qT
                  subst qT
                  clear HOt
                  go_wp2_with fail
                  refine (state_calls x S _ k1).mono ?_
                  rintro e w20 ⟨rfl, hw⟩
                  obtain rfl := hw.symm
                  go_wp2_with fail
                  refine (state_calls Y2 2 _ k3).mono ?_
                  rintro e w20 ⟨rfl, hw⟩
                  obtain rfl := hw.symm
                  go_wp2_with fail
                  refine (other_calls Y2 _ _ k4).mono ?_
                  rintro e w20 ⟨rfl, hw⟩
                  obtain rfl := hw.symm
                  go_wp2_with fail
                  refine (state_calls x S _ k1).mono ?_
                  rintro e w20 ⟨rfl, hw⟩
                  obtain rfl := hw.symm
                  go_wp2_with fail
                  refine (other_calls x 0 _ k2).mono ?_
                  rintro e w20 ⟨rfl, hw⟩
                  obtain rfl := hw.symm
                  go_wp2_with fail
                  go_roundg (60 - (i + 1))
                  case measure => omega
                  case rel => exact ⟨i + 1, nx2, ny2, B2, nw2, Y2, ta2, ua2, tc2, uc2, s2, t2, by omega, rfl, rfl, rfl, rfl, rfl, by go_num, by omega, by omega, by omega, by omega, by omega, by omega, HM⟩
                · have e3 : (T == 2) = false := by simpa using qT
                  clear HOt qT
                  go_wp2_with fail
                  refine (state_calls x S _ k1).mono ?_
                  rintro e w20 ⟨rfl, hw⟩
                  obtain rfl := hw.symm
                  go_wp2_with fail
                  refine (state_calls Y2 T _ k3).mono ?_
                  rintro e w20 ⟨rfl, hw⟩
                  obtain rfl := hw.symm
                  go_wp2_with fail
                  refine (state_calls x S _ k1).mono ?_
                  rintro e w20 ⟨rfl, hw⟩
                  obtain rfl := hw.symm
                  go_wp2_with fail
                  refine (other_calls x 0 _ k2).mono ?_
                  rintro e w20 ⟨rfl, hw⟩
                  obtain rfl := hw.symm
                  go_wp2_with fail
                  go_roundg (60 - (i + 1))
                  case measure => omega
                  case rel => exact ⟨i + 1, nx2, ny2, B2, nw2, Y2, ta2, ua2, tc2, uc2, s2, t2, by omega, rfl, rfl, rfl, rfl, rfl, by go_num, by omega, by omega, by omega, by omega, by omega, by omega, HM⟩
end Go.Proofs.Ytfdbfelcokockai.Meets
