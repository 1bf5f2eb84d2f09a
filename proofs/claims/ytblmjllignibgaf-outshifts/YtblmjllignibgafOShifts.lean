/-
  The walk of the Go function OutShifts: it returns true at any two numbers and any row of packets.
-/
import Derived.Test.YtblmjllignibgafOutC
import Derived.Test.YtblmjllignibgafOpenP
import Derived.Test.YtblmjllignibgafSame
import Derived.LoopTactic
import Derived.Deep.CutRange
import Derived.Deep.LoopGhost
namespace Go.Proofs.Ytblmjllignibgaf.OShifts
open Go.ChangeShapes Go.WideShapes Go.ChangeAt Go.RowKit Go.Proofs.Ytblmjllignibgaf.PM Go.Proofs.Ytblmjllignibgaf.Mem Go.Proofs.Ytblmjllignibgaf.Pack Go.Proofs.Ytblmjllignibgaf.UM Go.Proofs.Ytblmjllignibgaf.Out
set_option linter.unusedVariables false

/-- both Outs in memory: the second is as far beyond the first as it was at first -/
structure SSt (w W : World) (a b : Nat) (S D : Int) (k : Nat) (T U ly ow : Int) : Prop where
  one : OutAt W a 0 k T ly ow
  two : OutAt W b S k U ly ow
  i1 : UM.Inv 0 k T ow
  i2 : UM.Inv S k U ow
  rel : U = (T + D) % 4294967296
  ne : a ≠ b
  bel : Below w.heap.size w W
  ha : w.heap.size ≤ a
  hb : w.heap.size ≤ b
theorem SSt.below {w W W' : World} {a b : Nat} {S D : Int} {k : Nat} {T U ly ow : Int} (h : SSt w W a b S D k T U ly ow) (hb : Below W.heap.size W W') : SSt w W' a b S D k T U ly ow :=
  ⟨h.one.below hb, h.two.below hb, h.i1, h.i2, h.rel, h.ne, h.bel.trans (hb.mono h.bel.size), h.ha, h.hb⟩
theorem SSt.only {w W W' : World} {a b x : Nat} {S D : Int} {k : Nat} {T U ly ow : Int} (h : SSt w W a b S D k T U ly ow) (ho : Only [x] W W') (h1 : a ≠ x) (h2 : b ≠ x) (h3 : w.heap.size ≤ x) : SSt w W' a b S D k T U ly ow :=
  ⟨h.one.only ho (by simp; exact h1), h.two.only ho (by simp; exact h2), h.i1, h.i2, h.rel, h.ne, h.bel.trans (ho.below h.bel.size (by simp; exact h3)), h.ha, h.hb⟩
/-- the first one alone has gone on -/
structure MSt (w W : World) (a b : Nat) (S D : Int) (k : Nat) (T U ly ow T' l t : Int) : Prop where
  one : OutAt W a 0 (k + 1) T' l t
  two : OutAt W b S k U ly ow
  i1 : UM.Inv 0 (k + 1) T' t
  i2 : UM.Inv S k U ow
  rel : U = (T + D) % 4294967296
  ne : a ≠ b
  bel : Below w.heap.size w W
  ha : w.heap.size ≤ a
  hb : w.heap.size ≤ b
theorem MSt.below {w W W' : World} {a b : Nat} {S D : Int} {k : Nat} {T U ly ow T' l t : Int} (h : MSt w W a b S D k T U ly ow T' l t) (hb : Below W.heap.size W W') : MSt w W' a b S D k T U ly ow T' l t :=
  ⟨h.one.below hb, h.two.below hb, h.i1, h.i2, h.rel, h.ne, h.bel.trans (hb.mono h.bel.size), h.ha, h.hb⟩
theorem one_next (w : World) (a b : Nat) (S D : Int) (k : Nat) (T U ly ow : Int) (s t l q : Int) (st : Bool) (ad : Option Addr) (m c : Nat) (L : List Nat) (W : World) (h : SSt w W a b S D k T U ly ow) (hk : k < 1000) (hf : fault s t l q m = 0) (hA : Arg w ad m L) (hN : ad = none → m = 0 ∧ c = 0) :
    Calls Try.prog 5 #[.pointer (some ⟨a, 0, none⟩), .agg #[.int .i64 s, .int .i64 t, .int .i64 l, .int .i64 q, .bool st, .slice ad m c]] W fun e w' => ∃ a' c', e = .returned (.tuple #[.agg #[.int .i64 (sq 0 k), .int .i64 (nt k T ly ow l t), .int .i64 l, .int .i64 q, .bool st, .slice a' m c'], .nilIface]) ∧
      MSt w w' a b S D k T U ly ow (nt k T ly ow l t) l t ∧ Arg w' a' m L := by
  have ht : 0 ≤ t ∧ t ≤ 4294967295 := by obtain ⟨_, t', _, _, _, ht, _, _, _, ht1, _⟩ := fault_zero hf; omega
  refine (next_ok a 0 k T ly ow s t l q st ad m c L W h.one h.i1 hk hf (hA.below h.bel) hN).mono ?_
  rintro e w' ⟨a', c', rfl, h1, h2, _, h3⟩
  exact ⟨a', c', rfl, ⟨h1, h.two.only h3 (by simp; exact fun e => h.ne e.symm), h.i1.next hk ht.1 ht.2, h.i2, h.rel, h.ne, h.bel.trans (h3.below h.bel.size (by simp; exact h.ha)), h.ha, h.hb⟩, h2⟩
theorem two_next (w : World) (a b : Nat) (S D : Int) (k : Nat) (T U ly ow : Int) (s t l q : Int) (st : Bool) (ad : Option Addr) (m c : Nat) (L : List Nat) (W : World) (a1 : Option Addr) (h : MSt w W a b S D k T U ly ow (nt k T ly ow l t) l t) (h1 : Arg W a1 m L) (hk : k < 1000) (hf : fault s t l q m = 0) (hA : Arg w ad m L) (hN : ad = none → m = 0 ∧ c = 0) :
    Calls Try.prog 5 #[.pointer (some ⟨b, 0, none⟩), .agg #[.int .i64 s, .int .i64 t, .int .i64 l, .int .i64 q, .bool st, .slice ad m c]] W fun e w' => ∃ a' c', e = .returned (.tuple #[.agg #[.int .i64 (sq S k), .int .i64 (nt k U ly ow l t), .int .i64 l, .int .i64 q, .bool st, .slice a' m c'], .nilIface]) ∧
      SSt w w' a b S D (k + 1) (nt k T ly ow l t) (nt k U ly ow l t) l t ∧ Arg w' a1 m L ∧ Arg w' a' m L ∧ Only [b] W w' := by
  have ht : 0 ≤ t ∧ t ≤ 4294967295 := by obtain ⟨_, t', _, _, _, ht, _, _, _, ht1, _⟩ := fault_zero hf; omega
  refine (next_ok b S k U ly ow s t l q st ad m c L W h.two h.i2 hk hf (hA.below h.bel) hN).mono ?_
  rintro e w' ⟨a', c', rfl, h2, h3, _, h4⟩
  exact ⟨a', c', rfl, ⟨h.one.only h4 (by simp; exact h.ne), h2, h.i1, h.i2.next hk ht.1 ht.2, nt_shift h.rel, h.ne, h.bel.trans (h4.below h.bel.size (by simp; exact h.hb)), h.ha, h.hb⟩, h.two.arg h4 h1, h3, h4⟩

set_option maxHeartbeats 2000000 in
set_option maxRecDepth 100000 in
theorem walk_e0 (S D : Int) (vl : Value) (w : World) (h : S < 0) :
    Calls Try.prog 3 #[.int .i64 S, .int .i64 D, vl] w fun e w' => e = .returned (.bool true) ∧ Below w.heap.size w w' := by
  have HN := hidden (fun W => new_ok 0 0 W (by omega) (by omega) (by omega) (by omega))
  have HE := hidden (fun W => new_err S D W (by omega))
  have d : decide (S < 0) = true := by simpa using h
  go_enter Try.func3, Try.ntmps3
  go_wp2_with fail
  refine (HN.out _).mono ?_
  rintro e w1 ⟨a, rfl, ha, hL, hB⟩
  have HB1 := hidden hB
  clear hL hB HN
  go_wp2_with fail
  refine (HE.out _).mono ?_
  rintro e w2 ⟨rfl, rfl⟩
  go_wp2_with fail
  go_ret
  exact ⟨rfl, HB1.out⟩
set_option maxHeartbeats 2000000 in
set_option maxRecDepth 100000 in
theorem walk_e1 (S D : Int) (vl : Value) (w : World) (h : 65535 < S) (h0 : ¬ S < 0) :
    Calls Try.prog 3 #[.int .i64 S, .int .i64 D, vl] w fun e w' => e = .returned (.bool true) ∧ Below w.heap.size w w' := by
  have HN := hidden (fun W => new_ok 0 0 W (by omega) (by omega) (by omega) (by omega))
  have HE := hidden (fun W => new_err S D W (by omega))
  have d : decide (65535 < S) = true := by simpa using h
  have d0 : decide (S < 0) = false := by simpa using h0
  go_enter Try.func3, Try.ntmps3
  go_wp2_with fail
  refine (HN.out _).mono ?_
  rintro e w1 ⟨a, rfl, ha, hL, hB⟩
  have HB1 := hidden hB
  clear hL hB HN
  go_wp2_with fail
  refine (HE.out _).mono ?_
  rintro e w2 ⟨rfl, rfl⟩
  go_wp2_with fail
  go_ret
  exact ⟨rfl, HB1.out⟩
set_option maxHeartbeats 2000000 in
set_option maxRecDepth 100000 in
theorem walk_e2 (S D : Int) (vl : Value) (w : World) (h : D < 0) (h0 : ¬ S < 0) (h1 : ¬ 65535 < S) :
    Calls Try.prog 3 #[.int .i64 S, .int .i64 D, vl] w fun e w' => e = .returned (.bool true) ∧ Below w.heap.size w w' := by
  have HN := hidden (fun W => new_ok 0 0 W (by omega) (by omega) (by omega) (by omega))
  have HE := hidden (fun W => new_err S D W (by omega))
  have d : decide (D < 0) = true := by simpa using h
  have d0 : decide (S < 0) = false := by simpa using h0
  have d1 : decide (65535 < S) = false := by simpa using h1
  go_enter Try.func3, Try.ntmps3
  go_wp2_with fail
  refine (HN.out _).mono ?_
  rintro e w1 ⟨a, rfl, ha, hL, hB⟩
  have HB1 := hidden hB
  clear hL hB HN
  go_wp2_with fail
  refine (HE.out _).mono ?_
  rintro e w2 ⟨rfl, rfl⟩
  go_wp2_with fail
  go_ret
  exact ⟨rfl, HB1.out⟩
set_option maxHeartbeats 2000000 in
set_option maxRecDepth 100000 in
theorem walk_e3 (S D : Int) (vl : Value) (w : World) (h : 4294967295 < D) (h0 : ¬ S < 0) (h1 : ¬ 65535 < S) (h2 : ¬ D < 0) :
    Calls Try.prog 3 #[.int .i64 S, .int .i64 D, vl] w fun e w' => e = .returned (.bool true) ∧ Below w.heap.size w w' := by
  have HN := hidden (fun W => new_ok 0 0 W (by omega) (by omega) (by omega) (by omega))
  have HE := hidden (fun W => new_err S D W (by omega))
  have d : decide (4294967295 < D) = true := by simpa using h
  have d0 : decide (S < 0) = false := by simpa using h0
  have d1 : decide (65535 < S) = false := by simpa using h1
  have d2 : decide (D < 0) = false := by simpa using h2
  go_enter Try.func3, Try.ntmps3
  go_wp2_with fail
  refine (HN.out _).mono ?_
  rintro e w1 ⟨a, rfl, ha, hL, hB⟩
  have HB1 := hidden hB
  clear hL hB HN
  go_wp2_with fail
  refine (HE.out _).mono ?_
  rintro e w2 ⟨rfl, rfl⟩
  go_wp2_with fail
  go_ret
  exact ⟨rfl, HB1.out⟩
set_option maxHeartbeats 8000000 in
set_option maxRecDepth 100000 in
theorem walk_ok (S D : Int) (va : Option Addr) (ln cn : Nat) (F : Nat → Open.Pk) (w : World) (h0 : 0 ≤ S) (h1 : S ≤ 65535) (h2 : 0 ≤ D) (h3 : D ≤ 4294967295) (hF : Open.Pks w va ln F) :
    Calls Try.prog 3 #[.int .i64 S, .int .i64 D, .slice va ln cn] w fun e w' => e = .returned (.bool true) ∧ Below w.heap.size w w' := by
  have HN := hidden (fun W => new_ok 0 0 W (by omega) (by omega) (by omega) (by omega))
  have HM := hidden (fun W => new_ok S D W h0 h1 h2 h3)
  have hln := hF.1
  have HFs := hidden hF.2
  clear hF
  go_enter Try.func3, Try.ntmps3
  go_wp2_with fail
  refine (HN.out _).mono ?_
  rintro e w1 ⟨a, rfl, ha, hL, hB⟩
  have HL1 := hidden hL
  have HB1 := hidden hB
  clear hL hB HN
  go_wp2_with fail
  refine (HM.out _).mono ?_
  rintro e w2 ⟨b, rfl, hb, hL, hB⟩
  have HS0 : Hid (SSt w w2 a b S D 0 0 D 0 0) := hidden ⟨HL1.out.below hB, hL, UM.inv_start (by omega) (by omega) (by omega) (by omega), UM.inv_start h0 h1 h2 h3, by omega, by have := HL1.out.lt; omega, HB1.out.trans (hB.mono HB1.out.size), ha, by have := HB1.out.size; omega⟩
  clear hL hB HM HL1 HB1 ha hb
  go_wp2_with fail
  go_loopg [11] 40 (fun g y11 wr => ∃ (i k : Nat) (T U ly ow : Int), i + g = 40 ∧ k ≤ i ∧ y11 = .int .i64 (i : Int) ∧ Hid (SSt w wr a b S D k T U ly ow))
  case atStart => exact ⟨0, 0, 0, D, 0, 0, by omega, by omega, rfl, HS0⟩
  case round =>
    obtain ⟨i, k, T, U, ly, ow, hig, hki, rfl, HS⟩ := hrel
    clear HS0
    by_cases hi : i < ln
    case neg =>
      have hiz : ¬ (i : Int) < (ln : Int) := by omega
      have di : decide ((i : Int) < (ln : Int)) = false := by simpa using hiz
      go_wp2_with fail
      refine (sent_calls a 0 k T ly ow _ HS.out.one).mono ?_
      rintro e w3 ⟨rfl, rfl⟩
      go_wp2_with fail
      refine (sent_calls b S k U ly ow _ HS.out.two).mono ?_
      rintro e w4 ⟨rfl, rfl⟩
      go_wp2_with fail
      go_ret
      exact ⟨by simp, HS.out.bel⟩
    case pos =>
    have hiz : (i : Int) < (ln : Int) := by omega
    have di : decide ((i : Int) < (ln : Int)) = true := by simpa using hiz
    by_cases hi8 : i < 40
    case neg =>
      have hiz8 : ¬ (i : Int) < 40 := by omega
      go_wp2_with fail
      refine (sent_calls a 0 k T ly ow _ HS.out.one).mono ?_
      rintro e w3 ⟨rfl, rfl⟩
      go_wp2_with fail
      refine (sent_calls b S k U ly ow _ HS.out.two).mono ?_
      rintro e w4 ⟨rfl, rfl⟩
      go_wp2_with fail
      go_ret
      exact ⟨by simp, HS.out.bel⟩
    case pos =>
    have hiz8 : (i : Int) < 40 := by omega
    have hi0 : (0 : Int) ≤ (i : Int) := by omega
    obtain ⟨ib, io, rfl, hil, hat, hok⟩ := HFs.out i hi
    obtain ⟨⟨s, t, l, q, st, ad, m, c, L⟩, hFk⟩ : ∃ P, F i = P := ⟨_, rfl⟩
    rw [hFk] at hat hok
    clear hFk
    obtain ⟨i0, i1, i2, i3, i4, i5⟩ := hat
    simp only at i0 i1 i2 i3 i4 i5
    have HOK : Hid (Arg w ad m L ∧ (ad = none → m = 0 ∧ c = 0)) := hidden hok
    clear hok
    have hold : ∀ W (o : Nat) u, Below w.heap.size w W → w.cell? ⟨ib, o, none⟩ = some u → W.cell? ⟨ib, o, none⟩ = some u := fun W o u hb hc => (hb.cell (p := ⟨ib, o, none⟩) hil).trans hc
    have HOld := hidden hold
    have HI : Hid (w.cell? ⟨ib, io + i * 6, none⟩ = some (.int .i64 s) ∧ w.cell? ⟨ib, io + i * 6 + 1, none⟩ = some (.int .i64 t) ∧ w.cell? ⟨ib, io + i * 6 + 2, none⟩ = some (.int .i64 l) ∧ w.cell? ⟨ib, io + i * 6 + 3, none⟩ = some (.int .i64 q) ∧ w.cell? ⟨ib, io + i * 6 + 4, none⟩ = some (.bool st) ∧ w.cell? ⟨ib, io + i * 6 + 5, none⟩ = some (.slice ad m c)) := hidden ⟨i0, i1, i2, i3, i4, i5⟩
    have j0 := hold _ _ _ HS.out.bel i0
    have j1 := hold _ _ _ HS.out.bel i1
    have j2 := hold _ _ _ HS.out.bel i2
    have j3 := hold _ _ _ HS.out.bel i3
    have j4 := hold _ _ _ HS.out.bel i4
    have j5 := hold _ _ _ HS.out.bel i5
    clear hold i0 i1 i2 i3 i4 i5
    obtain ⟨f, hf⟩ : ∃ f, fault s t l q m = f := ⟨_, rfl⟩
    by_cases hf0 : f = 0
    case neg =>
      have HE : Hid (∀ W d (S' U' : Int), OutAt W d S' k U' ly ow → Calls Try.prog 5 #[.pointer (some ⟨d, 0, none⟩), .agg #[.int .i64 s, .int .i64 t, .int .i64 l, .int .i64 q, .bool st, .slice ad m c]] W fun e w' => e = .returned (.tuple #[.agg #[.int .i64 0, .int .i64 0, .int .i64 0, .int .i64 0, .bool false, .slice none 0 0], .iface 36 (.int .i64 (f : Int))]) ∧ Below W.heap.size W w') := by
        refine hidden (fun W d S' U' hW => ?_)
        have := next_err d S' k U' ly ow s t l q st ad m c W hW (by rw [hf]; exact hf0)
        rw [hf, errv_pos hf0] at this
        exact this
      clear hf hf0
      go_wp2_with fail
      refine (HE.out _ a 0 T HS.out.one).mono ?_
      rintro e w3 ⟨rfl, hb3⟩
      have HS3 := hidden ((HS.out.below hb3).below ((Below.refl _ _).alloc (Nat.le_refl _) (.cells #[.int .i64 0, .int .i64 0, .int .i64 0, .int .i64 0, .bool false, .slice none 0 0] 30)))
      clear hb3 HS j0 j1 j2 j3 j4 j5
      have j0 := HOld.out _ _ _ HS3.out.bel HI.out.1
      have j1 := HOld.out _ _ _ HS3.out.bel HI.out.2.1
      have j2 := HOld.out _ _ _ HS3.out.bel HI.out.2.2.1
      have j3 := HOld.out _ _ _ HS3.out.bel HI.out.2.2.2.1
      have j4 := HOld.out _ _ _ HS3.out.bel HI.out.2.2.2.2.1
      have j5 := HOld.out _ _ _ HS3.out.bel HI.out.2.2.2.2.2
      go_wp2_with fail
      refine (HE.out _ b S U HS3.out.two).mono ?_
      rintro e w4 ⟨rfl, hb4⟩
      have HS4 := hidden ((HS3.out.below hb4).below ((Below.refl _ _).alloc (Nat.le_refl _) (.cells #[.int .i64 0, .int .i64 0, .int .i64 0, .int .i64 0, .bool false, .slice none 0 0] 30)))
      clear hb4 HS3 j0 j1 j2 j3 j4 j5 HE HI HOld
      go_wp2_with fail
      go_quiet (fail)
      go_wp2_with fail
      go_roundg (40 - (i + 1))
      case measure => omega
      case rel => exact ⟨i + 1, k, T, U, ly, ow, by omega, by omega, by go_num, hidden (HS4.out.below (below_drewN (Below.refl _ _) _))⟩
    case pos =>
    subst hf0
    have H1 : Hid (∀ W, SSt w W a b S D k T U ly ow → _) := hidden (fun W hW => one_next w a b S D k T U ly ow s t l q st ad m c L W hW (by omega) hf HOK.out.1 HOK.out.2)
    have H2 : Hid (∀ W a1, MSt w W a b S D k T U ly ow (nt k T ly ow l t) l t → Arg W a1 m L → _) := hidden (fun W a1 hW hA => two_next w a b S D k T U ly ow s t l q st ad m c L W a1 hW hA (by omega) hf HOK.out.1 HOK.out.2)
    have b1 := sq_bd 0 k
    have b2 := sq_bd S k
    have b3 : 0 ≤ nt k T ly ow l t ∧ nt k T ly ow l t ≤ 4294967295 := nt_bd HS.out.i1.t0 HS.out.i1.t1
    have r1 : (sq 0 k + S) % 65536 = sq S k := by unfold sq; omega
    have r2 : (nt k T ly ow l t + D) % 4294967296 = nt k U ly ow l t := (nt_shift HS.out.rel).symm
    generalize nt k T ly ow l t = T' at *
    generalize nt k U ly ow l t = U' at *
    generalize sq 0 k = Q1 at *
    generalize sq S k = Q2 at *
    obtain ⟨b11, b12⟩ := b1
    obtain ⟨b31, b32⟩ := b3
    clear b2 hf
    go_wp2_with fail
    refine (H1.out _ HS.out).mono ?_
    rintro e w3 ⟨a1, c1, rfl, hM, hA1⟩
    obtain ⟨w4, hw4⟩ : ∃ w4, w3.alloc (.cells #[.int .i64 Q1, .int .i64 T', .int .i64 l, .int .i64 q, .bool st, .slice a1 m c1] 30) = w4 := ⟨_, rfl⟩
    have hb4 : Below w3.heap.size w3 w4 := by rw [← hw4]; exact (Below.refl _ _).alloc (Nat.le_refl _) _
    have HM4 := hidden (hM.below hb4)
    have HA4 := hidden (hA1.below hb4)
    have HX4 : Hid (Box w4 w3.heap.size Q1 T' l q st (.slice a1 m c1)) := by rw [← hw4]; exact Box.new w3 _ _ _ _ _ _
    have HLt : Hid (b < w3.heap.size ∧ a < w3.heap.size ∧ w.heap.size ≤ w3.heap.size) := ⟨hM.two.lt, hM.one.lt, hM.bel.size⟩
    have HW4 := hidden hw4
    clear hw4 hM hA1 hb4 HS j0 j1 j2 j3 j4 j5 H1
    have j0 := HOld.out _ _ _ HM4.out.bel HI.out.1
    have j1 := HOld.out _ _ _ HM4.out.bel HI.out.2.1
    have j2 := HOld.out _ _ _ HM4.out.bel HI.out.2.2.1
    have j3 := HOld.out _ _ _ HM4.out.bel HI.out.2.2.2.1
    have j4 := HOld.out _ _ _ HM4.out.bel HI.out.2.2.2.2.1
    have j5 := HOld.out _ _ _ HM4.out.bel HI.out.2.2.2.2.2
    go_upto_region 9 with fail
    rw [HW4.out]
    clear HW4
    obtain ⟨xb, hxb⟩ : ∃ xb, w3.heap.size = xb := ⟨_, rfl⟩
    rw [hxb] at HX4 HLt
    rw [hxb]
    clear hxb
    go_wp2_with fail
    refine (H2.out _ a1 HM4.out HA4.out).mono ?_
    rintro e w5 ⟨a2, c2, rfl, hS5, hA15, hA25, ho5⟩
    obtain ⟨w6, hw6⟩ : ∃ w6, w5.alloc (.cells #[.int .i64 Q2, .int .i64 U', .int .i64 l, .int .i64 q, .bool st, .slice a2 m c2] 30) = w6 := ⟨_, rfl⟩
    have hb6 : Below w5.heap.size w5 w6 := by rw [← hw6]; exact (Below.refl _ _).alloc (Nat.le_refl _) _
    have HS6 := hidden (hS5.below hb6)
    have HA16 := hidden (hA15.below hb6)
    have HA26 := hidden (hA25.below hb6)
    have hX5 : Box w5 xb Q1 T' l q st (.slice a1 m c1) := ho5.block HX4.out (by have := HLt.out.1; simp; omega)
    have HX6 : Hid (Box w6 xb Q1 T' l q st (.slice a1 m c1)) := hX5.below hb6 hX5.lt
    have HY6 : Hid (Box w6 w5.heap.size Q2 U' l q st (.slice a2 m c2)) := by rw [← hw6]; exact Box.new w5 _ _ _ _ _ _
    have HXY : Hid (xb < w5.heap.size) := hX5.lt
    have HW6 := hidden hw6
    clear hw6 hS5 hA15 hA25 ho5 hX5 hb6 HM4 HA4 HX4 H2 j0 j1 j2 j3 j4 j5
    go_upto_region 10 with fail
    rw [HW6.out]
    clear HW6
    obtain ⟨yb, hyb⟩ : ∃ yb, w5.heap.size = yb := ⟨_, rfl⟩
    rw [hyb] at HY6 HXY
    rw [hyb]
    clear hyb
    go_quiet (fail)
    obtain ⟨w7, hw7⟩ : ∃ w7, w6.drewN nq = w7 := ⟨_, rfl⟩
    have hb7 : Below w6.heap.size w6 w7 := by rw [← hw7]; exact below_drewN (Below.refl _ _) _
    have HS7 := hidden (HS6.out.below hb7)
    have HA17 := hidden (HA16.out.below hb7)
    have HA27 := hidden (HA26.out.below hb7)
    have HX7 := hidden (HX6.out.below hb7 HX6.out.lt)
    have HY7 := hidden (HY6.out.below hb7 HY6.out.lt)
    rw [hw7]
    clear hw7 hb7 HS6 HA16 HA26 HX6 HY6
    obtain ⟨x0, x1, x2, x3, x4, x5⟩ := HX7.out.cells
    have f0 := boxFree HX7.out 0
    have f1 := boxFree HX7.out 1
    obtain ⟨y0, y1, y2, y3, y4, y5⟩ := HY7.out.cells
    have n1 : ¬ xb = yb := by have := HXY.out; omega
    have n2 : ¬ yb = xb := by omega
    go_upto_region 15 with fail
    obtain ⟨w8, hw8⟩ : ∃ w8, (w7.setCell ⟨xb, 0, none⟩ (.int .i64 Q2)).setCell ⟨xb, 1, none⟩ (.int .i64 U') = w8 := ⟨_, rfl⟩
    have HX8 : Hid (Box w8 xb Q2 U' l q st (.slice a1 m c1)) := by rw [← hw8]; exact boxSet1 (boxSet0 HX7.out Q2) U'
    have HY8 : Hid (Box w8 yb Q2 U' l q st (.slice a2 m c2)) := by rw [← hw8]; exact boxOther (boxOther HY7.out n2 _) n2 _
    have HO8 : Hid (Only [xb] w7 w8) := by rw [← hw8]; exact ((Only.refl _ _).setCell (by simp) _).setCell (by simp) _
    have HS8 : Hid (SSt w w8 a b S D (k + 1) T' U' l t) := HS7.out.only HO8.out (by have := HLt.out; omega) (by have := HLt.out; omega) HLt.out.2.2
    have HA18 : Hid (Arg w8 a1 m L) := argOnly (boxNob HX7.out) HO8.out HA17.out
    have HA28 : Hid (Arg w8 a2 m L) := argOnly (boxNob HX7.out) HO8.out HA27.out
    rw [hw8]
    clear hw8 HO8 HS7 HA17 HA27 HX7 HY7 x0 x1 x2 x3 x4 x5 y0 y1 y2 y3 y4 y5 f0 f1
    obtain ⟨x0, x1, x2, x3, x4, x5⟩ := HX8.out.cells
    obtain ⟨y0, y1, y2, y3, y4, y5⟩ := HY8.out.cells
    go_wp2_with fail
    refine (same_pk Q2 U' l q st a1 a2 m m c1 c2 L _ HA18.out HA28.out).mono ?_
    rintro e w9 ⟨rfl, hb9⟩
    have HS9 := hidden (HS8.out.below hb9)
    clear hb9 HS8 HA18 HA28 HX8 HY8 x0 x1 x2 x3 x4 x5 y0 y1 y2 y3 y4 y5
    go_wp2_with fail
    go_roundg (40 - (i + 1))
    case measure => omega
    case rel => exact ⟨i + 1, k + 1, T', U', l, t, by omega, by omega, by go_num, HS9⟩
theorem walk (S D : Int) (va : Option Addr) (ln cn : Nat) (F : Nat → Open.Pk) (w : World) (hF : Open.Pks w va ln F) :
    Calls Try.prog 3 #[.int .i64 S, .int .i64 D, .slice va ln cn] w fun e w' => e = .returned (.bool true) ∧ Below w.heap.size w w' := by
  by_cases h0 : S < 0
  · exact walk_e0 S D _ w h0
  by_cases h1 : 65535 < S
  · exact walk_e1 S D _ w h1 h0
  by_cases h2 : D < 0
  · exact walk_e2 S D _ w h2 h0 h1
  by_cases h3 : 4294967295 < D
  · exact walk_e3 S D _ w h3 h0 h1 h2
  · exact walk_ok S D va ln cn F w (by omega) (by omega) (by omega) (by omega) hF
end Go.Proofs.Ytblmjllignibgaf.OShifts
