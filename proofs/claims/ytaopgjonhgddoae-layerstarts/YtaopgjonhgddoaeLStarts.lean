/-
  The walk of the Go function LayerStarts: it returns true at any number, any row of items and any row of numbers.
-/
import Derived.Test.YtaopgjonhgddoaeLayerC
import Derived.Test.YtaopgjonhgddoaeOpenI
import Derived.LoopTactic
import Derived.Deep.CutRange
import Derived.Deep.LoopGhost
namespace Go.Proofs.Ytaopgjonhgddoae.LStarts
open Go.ChangeShapes Go.WideShapes Go.ChangeAt Go.RowKit Go.Proofs.Ytaopgjonhgddoae.PM Go.Proofs.Ytaopgjonhgddoae.Mem Go.Proofs.Ytaopgjonhgddoae.Pack Go.Proofs.Ytaopgjonhgddoae.LM Go.Proofs.Ytaopgjonhgddoae.Layer
set_option linter.unusedVariables false

theorem first_no (b : Nat) (w : World) (h : LayerAt w b 2 (-1) (-1) false) :
    Calls Try.prog 11 #[.pointer (some ⟨b, 0, none⟩), .agg #[.int .i64 5, .bool false, .int .i64 0, .int .i64 0, .int .i64 1, .int .i64 0, .bool false, .slice none 0 0]] w fun e w' => e = .returned (.tuple #[.bool false, .nilIface]) ∧ LayerAt w' b 2 (-1) 5 false ∧ Only [b] w w' :=
  take_pack b 2 (-1) (-1) 5 false 0 0 1 0 false none 0 0 w h (by decide) (by decide)
theorem first_yes (b : Nat) (w : World) (h : LayerAt w b 2 (-1) 5 false) :
    Calls Try.prog 11 #[.pointer (some ⟨b, 0, none⟩), .agg #[.int .i64 6, .bool false, .int .i64 0, .int .i64 0, .int .i64 1, .int .i64 0, .bool true, .slice none 0 0]] w fun e w' => e = .returned (.tuple #[.bool true, .nilIface]) ∧ LayerAt w' b 2 1 6 false ∧ Only [b] w w' :=
  take_pack b 2 (-1) 5 6 false 0 0 1 0 true none 0 0 w h (by decide) (by decide)
theorem first_wants (b : Nat) (w : World) (h : LayerAt w b 2 1 6 false) :
    Calls Try.prog 13 #[.pointer (some ⟨b, 0, none⟩)] w fun e w' => e = .returned (.bool false) ∧ ∃ k, w' = w.drewN k := wants_calls b 2 1 6 false w h

/-- under way: what is known of the Layer, of the layer that went through last (nw) and of whether something is gone since -/
structure SSt (w W : World) (b : Nat) (mo nw la : Int) (br gn : Bool) : Prop where
  lay : LayerAt W b mo nw la br
  inv : LM.Inv mo nw la br
  bel : Below w.heap.size w W
  hb : w.heap.size ≤ b
  rel : br = (gn && decide (nw ≠ -1))
theorem SSt.drew {w W : World} {b : Nat} {mo nw la : Int} {br gn : Bool} (h : SSt w W b mo nw la br gn) (k : Nat) : SSt w (W.drewN k) b mo nw la br gn :=
  ⟨h.lay.below (below_drewN (Below.refl _ _) _), h.inv, below_drewN h.bel _, h.hb, h.rel⟩
theorem SSt.alloc {w W : World} {b : Nat} {mo nw la : Int} {br gn : Bool} (h : SSt w W b mo nw la br gn) (O : Obj) : SSt w (W.alloc O) b mo nw la br gn :=
  ⟨h.lay.alloc O, h.inv, h.bel.alloc h.bel.size O, h.hb, h.rel⟩
theorem SSt.limit (w : World) (b : Nat) (mo nw la y : Int) (br gn : Bool) (W : World) (h : SSt w W b mo nw la br gn) (h0 : 0 ≤ y) (h1 : y ≤ 3) :
    Calls Try.prog 14 #[.pointer (some ⟨b, 0, none⟩), .int .i64 y] W fun e w' => e = .returned .nilIface ∧ SSt w w' b y nw la br gn := by
  refine (limit_ok b mo nw la y br W h.lay h0 h1).mono ?_
  rintro e w' ⟨rfl, hl, ho⟩
  exact ⟨rfl, hl, h.inv.limit h0 h1, h.bel.trans (ho.below h.bel.size (by simp; exact h.hb)), h.hb, h.rel⟩
theorem take_e (w : World) (b : Nat) (mo nw la n : Int) (br gn : Bool) (s t l q : Int) (st : Bool) (a : Option Addr) (k c : Nat) (W : World) (g : Bool) (f : Nat) (h : SSt w W b mo nw la br gn) (hf : tkf la n g (fault s t l q k) = f) (h0 : f ≠ 0) :
    Calls Try.prog 11 #[.pointer (some ⟨b, 0, none⟩), .agg #[.int .i64 n, .bool g, .int .i64 s, .int .i64 t, .int .i64 l, .int .i64 q, .bool st, .slice a k c]] W fun e w' => e = .returned (.tuple #[.bool false, .iface 49 (.int .i64 (f : Int))]) ∧ SSt w w' b mo nw la br gn := by
  refine (take_err b mo nw la n br g s t l q st a k c W h.lay (by rw [hf]; exact h0)).mono ?_
  rintro e w' ⟨rfl, hb⟩
  exact ⟨by rw [hf, errv_pos h0], h.lay.below hb, h.inv, h.bel.trans (hb.mono h.bel.size), h.hb, h.rel⟩
theorem take_g (w : World) (b : Nat) (mo nw la n : Int) (br gn : Bool) (s t l q : Int) (st : Bool) (a : Option Addr) (k c : Nat) (W : World) (h : SSt w W b mo nw la br gn) (hf : tkf la n true (fault s t l q k) = 0) :
    Calls Try.prog 11 #[.pointer (some ⟨b, 0, none⟩), .agg #[.int .i64 n, .bool true, .int .i64 s, .int .i64 t, .int .i64 l, .int .i64 q, .bool st, .slice a k c]] W fun e w' => e = .returned (.tuple #[.bool false, .nilIface]) ∧ SSt w w' b mo nw n (decide (nw ≠ -1)) true := by
  refine (take_gone b mo nw la n br s t l q st a k c W h.lay hf).mono ?_
  rintro e w' ⟨rfl, hl, ho⟩
  have hi := inv_take (n := n) (g := true) (p := fault s t l q k) (l := l) (st := st) h.inv (fun e => by obtain ⟨_, _, z, _, _, _, hz, _, _, _, h3, _⟩ := fault_zero e; omega)
  obtain ⟨_, e1, e2, e3⟩ := tk_gone (m := mo) (nw := nw) (br := br) (l := l) (st := st) hf
  rw [e1, e2, e3] at hi
  exact ⟨rfl, hl, hi, h.bel.trans (ho.below h.bel.size (by simp; exact h.hb)), h.hb, by simp⟩
theorem take_n (w : World) (b : Nat) (mo nw la n : Int) (br gn : Bool) (s t l q : Int) (st : Bool) (a : Option Addr) (k c : Nat) (W : World) (h : SSt w W b mo nw la br gn) (hf : tkf la n false (fault s t l q k) = 0) (hg : goes mo nw l br st = false) :
    Calls Try.prog 11 #[.pointer (some ⟨b, 0, none⟩), .agg #[.int .i64 n, .bool false, .int .i64 s, .int .i64 t, .int .i64 l, .int .i64 q, .bool st, .slice a k c]] W fun e w' => e = .returned (.tuple #[.bool false, .nilIface]) ∧ SSt w w' b mo nw n br gn := by
  have hl : 0 ≤ l ∧ l ≤ 3 := by obtain ⟨_, _, z, _, _, _, hz, _, _, _, h3, _⟩ := fault_zero ((tkf_zero hf).2.2.2 rfl); omega
  have := take_pack b mo nw la n br s t l q st a k c W h.lay hf hl.1
  rw [hg] at this
  refine this.mono ?_
  rintro e w' ⟨rfl, hL, ho⟩
  have hi := inv_take (n := n) (g := false) (p := fault s t l q k) (l := l) (st := st) h.inv (fun _ => hl)
  obtain ⟨_, e1, e2, e3⟩ := tk_pack (m := mo) (nw := nw) (br := br) (l := l) (st := st) hf
  rw [e1, e2, e3, hg] at hi
  exact ⟨rfl, hL, hi, h.bel.trans (ho.below h.bel.size (by simp; exact h.hb)), h.hb, h.rel⟩
theorem take_y (w : World) (b : Nat) (mo nw la n : Int) (br gn : Bool) (s t l q : Int) (st : Bool) (a : Option Addr) (k c : Nat) (W : World) (h : SSt w W b mo nw la br gn) (hf : tkf la n false (fault s t l q k) = 0) (hg : goes mo nw l br st = true) :
    Calls Try.prog 11 #[.pointer (some ⟨b, 0, none⟩), .agg #[.int .i64 n, .bool false, .int .i64 s, .int .i64 t, .int .i64 l, .int .i64 q, .bool st, .slice a k c]] W fun e w' => e = .returned (.tuple #[.bool true, .nilIface]) ∧ SSt w w' b mo l n false false := by
  have hl : 0 ≤ l ∧ l ≤ 3 := by obtain ⟨_, _, z, _, _, _, hz, _, _, _, h3, _⟩ := fault_zero ((tkf_zero hf).2.2.2 rfl); omega
  have := take_pack b mo nw la n br s t l q st a k c W h.lay hf hl.1
  refine this.mono ?_
  rintro e w' ⟨rfl, hL, ho⟩
  have hi := inv_take (n := n) (g := false) (p := fault s t l q k) (l := l) (st := st) h.inv (fun _ => hl)
  obtain ⟨_, e1, e2, e3⟩ := tk_pack (m := mo) (nw := nw) (br := br) (l := l) (st := st) hf
  rw [e1, e2, e3] at hi
  obtain ⟨q0, q1, q2, q3⟩ := goes_then hg hl.1
  rw [q2] at hL hi
  have e4 : (if goes mo nw l br st && st then false else br) = false := by
    cases st with
    | true => simp [hg]
    | false => simp [(q3 rfl).2]
  rw [e4] at hL hi
  exact ⟨by rw [hg], hL, hi, h.bel.trans (ho.below h.bel.size (by simp; exact h.hb)), h.hb, by simp⟩

set_option maxHeartbeats 4000000 in
set_option maxRecDepth 100000 in
theorem walk_neg (most : Int) (vl vs : Value) (w : World) (h : most < 0) :
    Calls Try.prog 4 #[.int .i64 most, vl, vs] w fun e w' => e = .returned (.bool true) ∧ Below w.heap.size w w' := by
  have HN : Hid (∀ W, Calls Try.prog 10 #[.int .i64 most] W fun e w' => e = .returned (.tuple #[.pointer none, .iface 49 (.int .i64 1)]) ∧ w' = W) := hidden (fun W => new_err most W (by omega))
  have HN2 := hidden (fun W => new_ok 2 W (by omega) (by omega))
  have HF1 := hidden first_no
  have HF2 := hidden first_yes
  have HF3 := hidden first_wants
  go_enter Try.func4, Try.ntmps4
  go_wp2_with fail
  refine (HN2.out _).mono ?_
  rintro e w1 ⟨b1, rfl, hb1, hL, hB⟩
  have HL1 := hidden hL
  have HB1 := hidden hB
  clear hL hB HN2
  go_wp2_with fail
  refine (HF1.out b1 _ HL1.out).mono ?_
  rintro e w2 ⟨rfl, hL, ho⟩
  have HL2 := hidden hL
  have HB2 : Hid (Below w.heap.size w w2) := HB1.out.trans (ho.below HB1.out.size (by simp; omega))
  clear hL ho HL1 HB1 HF1
  go_wp2_with fail
  refine (HF2.out b1 _ HL2.out).mono ?_
  rintro e w3 ⟨rfl, hL, ho⟩
  have HL3 := hidden hL
  have HB3 : Hid (Below w.heap.size w w3) := HB2.out.trans (ho.below HB2.out.size (by simp; omega))
  clear hL ho HL2 HB2 HF2
  go_wp2_with fail
  refine (now_calls b1 2 1 6 false _ HL3.out).mono ?_
  rintro e w4 ⟨rfl, rfl⟩
  go_wp2_with fail
  refine (HF3.out b1 _ HL3.out).mono ?_
  rintro e w5 ⟨rfl, k5, hk⟩
  have HB5 : Hid (Below w.heap.size w w5) := by rw [hk]; exact below_drewN HB3.out _
  clear hk HL3 HB3 HF3
  go_wp2_with fail
  refine (HN.out _).mono ?_
  rintro e w6 ⟨rfl, rfl⟩
  go_wp2_with fail
  go_ret
  exact ⟨rfl, HB5.out⟩
set_option maxHeartbeats 4000000 in
set_option maxRecDepth 100000 in
theorem walk_big (most : Int) (vl vs : Value) (w : World) (h : 3 < most) :
    Calls Try.prog 4 #[.int .i64 most, vl, vs] w fun e w' => e = .returned (.bool true) ∧ Below w.heap.size w w' := by
  have HN : Hid (∀ W, Calls Try.prog 10 #[.int .i64 most] W fun e w' => e = .returned (.tuple #[.pointer none, .iface 49 (.int .i64 1)]) ∧ w' = W) := hidden (fun W => new_err most W (by omega))
  have HN2 := hidden (fun W => new_ok 2 W (by omega) (by omega))
  have HF1 := hidden first_no
  have HF2 := hidden first_yes
  have HF3 := hidden first_wants
  go_enter Try.func4, Try.ntmps4
  go_wp2_with fail
  refine (HN2.out _).mono ?_
  rintro e w1 ⟨b1, rfl, hb1, hL, hB⟩
  have HL1 := hidden hL
  have HB1 := hidden hB
  clear hL hB HN2
  go_wp2_with fail
  refine (HF1.out b1 _ HL1.out).mono ?_
  rintro e w2 ⟨rfl, hL, ho⟩
  have HL2 := hidden hL
  have HB2 : Hid (Below w.heap.size w w2) := HB1.out.trans (ho.below HB1.out.size (by simp; omega))
  clear hL ho HL1 HB1 HF1
  go_wp2_with fail
  refine (HF2.out b1 _ HL2.out).mono ?_
  rintro e w3 ⟨rfl, hL, ho⟩
  have HL3 := hidden hL
  have HB3 : Hid (Below w.heap.size w w3) := HB2.out.trans (ho.below HB2.out.size (by simp; omega))
  clear hL ho HL2 HB2 HF2
  go_wp2_with fail
  refine (now_calls b1 2 1 6 false _ HL3.out).mono ?_
  rintro e w4 ⟨rfl, rfl⟩
  go_wp2_with fail
  refine (HF3.out b1 _ HL3.out).mono ?_
  rintro e w5 ⟨rfl, k5, hk⟩
  have HB5 : Hid (Below w.heap.size w w5) := by rw [hk]; exact below_drewN HB3.out _
  clear hk HL3 HB3 HF3
  go_wp2_with fail
  refine (HN.out _).mono ?_
  rintro e w6 ⟨rfl, rfl⟩
  go_wp2_with fail
  go_ret
  exact ⟨rfl, HB5.out⟩
set_option maxHeartbeats 16000000 in
set_option maxRecDepth 100000 in
theorem walk_ok (most : Int) (va vb : Option Addr) (ln cn ll cl : Nat) (F : Nat → Open.It) (Z : Nat → Int) (w : World) (h0 : 0 ≤ most) (h1 : most ≤ 3) (hF : Open.Items w va ln F) (hZ : Open.Nums w vb ll Z) :
    Calls Try.prog 4 #[.int .i64 most, .slice va ln cn, .slice vb ll cl] w fun e w' => e = .returned (.bool true) ∧ Below w.heap.size w w' := by
  have HN := hidden (fun W => new_ok most W h0 h1)
  have hln := hF.1
  have hll := hZ.1
  have HFs := hidden hF.2
  have HZs := hidden hZ.2.1
  clear hF hZ
  have HN2 := hidden (fun W => new_ok 2 W (by omega) (by omega))
  have HF1 := hidden first_no
  have HF2 := hidden first_yes
  have HF3 := hidden first_wants
  go_enter Try.func4, Try.ntmps4
  go_wp2_with fail
  refine (HN2.out _).mono ?_
  rintro e w1 ⟨b1, rfl, hb1, hL, hB⟩
  have HL1 := hidden hL
  have HB1 := hidden hB
  clear hL hB HN2
  go_wp2_with fail
  refine (HF1.out b1 _ HL1.out).mono ?_
  rintro e w2 ⟨rfl, hL, ho⟩
  have HL2 := hidden hL
  have HB2 : Hid (Below w.heap.size w w2) := HB1.out.trans (ho.below HB1.out.size (by simp; omega))
  clear hL ho HL1 HB1 HF1
  go_wp2_with fail
  refine (HF2.out b1 _ HL2.out).mono ?_
  rintro e w3 ⟨rfl, hL, ho⟩
  have HL3 := hidden hL
  have HB3 : Hid (Below w.heap.size w w3) := HB2.out.trans (ho.below HB2.out.size (by simp; omega))
  clear hL ho HL2 HB2 HF2
  go_wp2_with fail
  refine (now_calls b1 2 1 6 false _ HL3.out).mono ?_
  rintro e w4 ⟨rfl, rfl⟩
  go_wp2_with fail
  refine (HF3.out b1 _ HL3.out).mono ?_
  rintro e w5 ⟨rfl, k5, hk⟩
  have HB5 : Hid (Below w.heap.size w w5) := by rw [hk]; exact below_drewN HB3.out _
  clear hk HL3 HB3 HF3
  go_wp2_with fail
  refine (HN.out _).mono ?_
  rintro e w6 ⟨b, rfl, hb, hL, hB⟩
  have HS0 : Hid (SSt w w6 b most (-1) (-1) false false) := hidden ⟨hL, inv_start h0 h1, HB5.out.trans (hB.mono HB5.out.size), Nat.le_trans HB5.out.size hb, rfl⟩
  clear hL hB hb HB5 HN h0 h1
  go_wp2_with fail
  go_loopg [0, 15, 16, 17] 80 (fun g y0 y15 y16 y17 wr => ∃ (k : Nat) (mo nw la : Int) (br gn : Bool), k + g = 80 ∧ y0 = .int .i64 mo ∧ y15 = .int .i64 nw ∧ y16 = .bool gn ∧ y17 = .int .i64 (k : Int) ∧ Hid (SSt w wr b mo nw la br gn))
  case atStart => exact ⟨0, most, -1, -1, false, false, by omega, rfl, rfl, rfl, rfl, HS0⟩
  case round =>
    obtain ⟨k, mo0, nw, la, br, gn, hkg, rfl, rfl, rfl, rfl, HS⟩ := hrel
    clear HS0
    by_cases hk : k < ln
    case neg =>
      have hkz : ¬ (k : Int) < (ln : Int) := by omega
      have dk : decide ((k : Int) < (ln : Int)) = false := by simpa using hkz
      go_wp2_with fail
      go_ret
      exact ⟨rfl, HS.out.bel⟩
    case pos =>
    have hkz : (k : Int) < (ln : Int) := by omega
    have dk : decide ((k : Int) < (ln : Int)) = true := by simpa using hkz
    by_cases hk8 : k < 80
    case neg =>
      have hkz8 : ¬ (k : Int) < 80 := by omega
      go_wp2_with fail
      go_ret
      exact ⟨rfl, HS.out.bel⟩
    case pos =>
    have hkz8 : (k : Int) < 80 := by omega
    have hk0 : (0 : Int) ≤ (k : Int) := by omega
    obtain ⟨jb, hjb⟩ : ∃ jb : Bool, decide (k < ll ∧ 0 ≤ Z k ∧ Z k ≤ 3) = jb := ⟨_, rfl⟩
    have HJb := hidden hjb
    clear hjb
    go_upto_region 16 with fail
    go_cut [104] from 87 to 104 (fun c wx => c = .bool jb ∧ wx = wr)
    case first =>
      by_cases q1 : k < ll
      · have q1z : (k : Int) < (ll : Int) := by omega
        obtain ⟨zb, zo, rfl, hzl, hzc⟩ := HZs.out k q1
        have hz := (HS.out.bel.cell (p := ⟨zb, zo + k, none⟩) hzl).trans hzc
        clear hzc
        by_cases q2 : 0 ≤ Z k
        · have d2 : decide (0 ≤ Z k) = true := by simpa using q2
          have e := hidden (by rw [← HJb.out]; simp [q1, q2] : decide (Z k ≤ 3) = jb)
          clear HJb
          go_wp2_with fail
          go_meet
          exact ⟨congrArg Value.bool e.out, rfl⟩
        · have d2 : decide (0 ≤ Z k) = false := by simpa using q2
          have e := hidden (by rw [← HJb.out]; simp [q2] : false = jb)
          clear HJb
          go_wp2_with fail
          go_meet
          exact ⟨congrArg Value.bool e.out, rfl⟩
      · have q1z : ¬ (k : Int) < (ll : Int) := by omega
        have e := hidden (by rw [← HJb.out]; simp [q1] : false = jb)
        clear HJb
        go_wp2_with fail
        go_meet
        exact ⟨congrArg Value.bool e.out, rfl⟩
    case rest =>
    obtain ⟨rfl, rfl⟩ := hcut
    go_upto_if 104 with fail
    go_cut [0] from 105 to 116 (fun y wx => ∃ mo, y = .int .i64 mo ∧ Hid (SSt w wx b mo nw la br gn))
    case first =>
      cases jb with
      | true =>
        obtain ⟨q1, q2, q3⟩ := of_decide_eq_true HJb.out
        have q1z : (k : Int) < (ll : Int) := by omega
        obtain ⟨zb, zo, rfl, hzl, hzc⟩ := HZs.out k q1
        have hz := (HS.out.bel.cell (p := ⟨zb, zo + k, none⟩) hzl).trans hzc
        have HZ0 := hidden hzc
        clear hzc HJb
        go_wp2_with fail
        refine (SSt.limit w b mo0 nw la (Z k) br gn _ HS.out q2 q3).mono ?_
        rintro e w7 ⟨rfl, hS7⟩
        have HS7 := hidden hS7
        have hz7 := (HS7.out.bel.cell (p := ⟨zb, zo + k, none⟩) hzl).trans HZ0.out
        clear hS7 hz HS
        go_wp2_with fail
        go_meet
        exact ⟨_, rfl, HS7⟩
      | false =>
        go_wp2_with fail
        go_meet
        exact ⟨_, rfl, HS⟩
    case rest =>
    obtain ⟨mo, rfl, HS8⟩ := hcut
    clear HS HJb
    obtain ⟨ib, io, rfl, hil, hit⟩ := HFs.out k hk
    obtain ⟨⟨n, g, s, t, l, q, st, a, m, c⟩, hFk⟩ : ∃ P, F k = P := ⟨_, rfl⟩
    rw [hFk] at hit
    clear hFk
    obtain ⟨i0, i1, i2, i3, i4, i5, i6, i7⟩ := hit
    simp only at i0 i1 i2 i3 i4 i5 i6 i7
    have hold : ∀ W (o : Nat) u, Below w.heap.size w W → w.cell? ⟨ib, o, none⟩ = some u → W.cell? ⟨ib, o, none⟩ = some u := fun W o u hb hc => (hb.cell (p := ⟨ib, o, none⟩) hil).trans hc
    have HOld := hidden hold
    have HI : Hid (w.cell? ⟨ib, io + k * 8 + 1, none⟩ = some (.bool g) ∧ w.cell? ⟨ib, io + k * 8 + 2, none⟩ = some (.int .i64 s) ∧ w.cell? ⟨ib, io + k * 8 + 3, none⟩ = some (.int .i64 t) ∧ w.cell? ⟨ib, io + k * 8 + 4, none⟩ = some (.int .i64 l) ∧ w.cell? ⟨ib, io + k * 8 + 5, none⟩ = some (.int .i64 q) ∧ w.cell? ⟨ib, io + k * 8 + 6, none⟩ = some (.bool st) ∧ w.cell? ⟨ib, io + k * 8 + 7, none⟩ = some (.slice a m c)) := hidden ⟨i1, i2, i3, i4, i5, i6, i7⟩
    have j0 := hold _ _ _ HS8.out.bel i0
    have j1 := hold _ _ _ HS8.out.bel i1
    have j2 := hold _ _ _ HS8.out.bel i2
    have j3 := hold _ _ _ HS8.out.bel i3
    have j4 := hold _ _ _ HS8.out.bel i4
    have j5 := hold _ _ _ HS8.out.bel i5
    have j6 := hold _ _ _ HS8.out.bel i6
    have j7 := hold _ _ _ HS8.out.bel i7
    clear hold i0 i1 i2 i3 i4 i5 i6 i7
    obtain ⟨f, hf⟩ : ∃ f, tkf la n g (fault s t l q m) = f := ⟨_, rfl⟩
    by_cases hf0 : f = 0
    case neg =>
      have HT := hidden (fun W hW => take_e w b mo nw la n br gn s t l q st a m c W g f hW hf hf0)
      clear hf hf0
      go_wp2_with fail
      refine (HT.out _ HS8.out).mono ?_
      rintro e w9 ⟨rfl, hS9⟩
      have HS9 := hidden hS9
      clear hS9 HS8 HT j0 j1 j2 j3 j4 j5 j6 j7
      go_wp2_with fail
      go_roundg (80 - (k + 1))
      case measure => omega
      case rel => exact ⟨k + 1, mo, nw, la, br, gn, by omega, rfl, rfl, rfl, by go_num, HS9⟩
    case pos =>
    subst hf0
    cases g with
    | true =>
      have HT := hidden (fun W hW => take_g w b mo nw la n br gn s t l q st a m c W hW hf)
      obtain ⟨br2, hbr2⟩ : ∃ br2, decide (nw ≠ -1) = br2 := ⟨_, rfl⟩
      rw [hbr2] at HT
      clear hf hbr2
      go_wp2_with fail
      refine (HT.out _ HS8.out).mono ?_
      rintro e w9 ⟨rfl, hS9⟩
      have HS9 := hidden hS9
      have j1 := HOld.out _ _ _ HS9.out.bel HI.out.1
      clear hS9 HS8 HT j0 j2 j3 j4 j5 j6 j7
      go_wp2_with fail
      go_roundg (80 - (k + 1))
      case measure => omega
      case rel => exact ⟨k + 1, mo, nw, n, br2, true, by omega, rfl, rfl, rfl, by go_num, HS9⟩
    | false =>
    cases hgo : goes mo nw l br st with
    | false =>
      have HT := hidden (fun W hW => take_n w b mo nw la n br gn s t l q st a m c W hW hf hgo)
      clear hf hgo
      go_wp2_with fail
      refine (HT.out _ HS8.out).mono ?_
      rintro e w9 ⟨rfl, hS9⟩
      have HS9 := hidden hS9
      have j1 := HOld.out _ _ _ HS9.out.bel HI.out.1
      clear hS9 HS8 HT j0 j2 j3 j4 j5 j6 j7
      go_wp2_with fail
      go_roundg (80 - (k + 1))
      case measure => omega
      case rel => exact ⟨k + 1, mo, nw, n, br, gn, by omega, rfl, rfl, rfl, by go_num, HS9⟩
    | true =>
      have HT := hidden (fun W hW => take_y w b mo nw la n br gn s t l q st a m c W hW hf hgo)
      have hl0 : 0 ≤ l := by obtain ⟨_, _, z, _, _, _, hz, _⟩ := fault_zero ((tkf_zero hf).2.2.2 rfl); omega
      obtain ⟨g0, _, _, g3⟩ := goes_then hgo hl0
      have d0 : decide (mo < l) = false := by simpa using g0
      have HG3 : Hid (st = false → l = nw ∧ gn = false) := by
        refine hidden (fun e => ?_)
        obtain ⟨e1, e2⟩ := g3 e
        have := HS8.out.rel
        rw [e2] at this
        have hn : ¬ nw = -1 := by omega
        refine ⟨e1, ?_⟩
        simpa [hn] using this.symm
      clear hf hgo g3
      go_wp2_with fail
      refine (HT.out _ HS8.out).mono ?_
      rintro e w9 ⟨rfl, hS9⟩
      have HS9 := hidden hS9
      have k1 := HOld.out _ _ _ HS9.out.bel HI.out.1
      have k2 := HOld.out _ _ _ HS9.out.bel HI.out.2.1
      have k3 := HOld.out _ _ _ HS9.out.bel HI.out.2.2.1
      have k4 := HOld.out _ _ _ HS9.out.bel HI.out.2.2.2.1
      have k5 := HOld.out _ _ _ HS9.out.bel HI.out.2.2.2.2.1
      have k6 := HOld.out _ _ _ HS9.out.bel HI.out.2.2.2.2.2.1
      have k7 := HOld.out _ _ _ HS9.out.bel HI.out.2.2.2.2.2.2
      clear hS9 HS8 HT j0 j1 j2 j3 j4 j5 j6 j7
      go_wp2_with fail
      obtain ⟨wz, hwz⟩ : ∃ wz, w9.alloc (.cells #[.int .i64 s, .int .i64 t, .int .i64 l, .int .i64 q, .bool st, .slice a m c] 32) = wz := ⟨_, rfl⟩
      have HSz : Hid (SSt w wz b mo l n false false) := by rw [← hwz]; exact hidden (HS9.out.alloc _)
      have HXz : Hid (Box wz w9.heap.size s t l q st (.slice a m c)) := by rw [← hwz]; exact hidden (Box.new _ _ _ _ _ _ _)
      rw [hwz]
      obtain ⟨xb, hxb⟩ : ∃ xb, w9.heap.size = xb := ⟨_, rfl⟩
      rw [hxb] at HXz
      rw [hxb]
      clear hwz HS9 hxb k1 k2 k3 k4 k5 k6 k7
      obtain ⟨_, _, x2, _, x4, _⟩ := HXz.out.cells
      have HW : Hid (∀ W, LayerAt W b mo l n false → Calls Try.prog 13 #[.pointer (some ⟨b, 0, none⟩)] W fun e w' => e = .returned (.bool false) ∧ ∃ k, w' = W.drewN k) := by
        refine hidden (fun W hW => ?_)
        have := wants_calls b mo l n false W hW
        rw [show wants mo l false = false by simp [wants]; omega] at this
        exact this
      have HNw := hidden (fun W hW => now_calls b mo l n false W hW)
      have dl : (l != l) = false := by simp
      cases st with
      | true =>
        go_quiet (first | (go_at_call 12; exact Calls.quiet_of_same (HNw.out _ (by exact HSz.out.lay))) | (go_at_call 13; exact Calls.quiet_of (HW.out _ (by exact HSz.out.lay))))
        go_wp2_with fail
        go_roundg (80 - (k + 1))
        case measure => omega
        case rel => exact ⟨k + 1, mo, l, n, false, false, by omega, rfl, rfl, rfl, by go_num, hidden (HSz.out.drew _)⟩
      | false =>
        obtain ⟨rfl, rfl⟩ := HG3.out rfl
        have dn : decide (l < 0) = false := by simpa using hl0
        go_quiet (first | (go_at_call 12; exact Calls.quiet_of_same (HNw.out _ (by exact HSz.out.lay))) | (go_at_call 13; exact Calls.quiet_of (HW.out _ (by exact HSz.out.lay))))
        go_wp2_with fail
        go_roundg (80 - (k + 1))
        case measure => omega
        case rel => exact ⟨k + 1, mo, l, n, false, false, by omega, rfl, rfl, rfl, by go_num, hidden (HSz.out.drew _)⟩
theorem walk (most : Int) (va vb : Option Addr) (ln cn ll cl : Nat) (F : Nat → Open.It) (Z : Nat → Int) (w : World) (hF : Open.Items w va ln F) (hZ : Open.Nums w vb ll Z) :
    Calls Try.prog 4 #[.int .i64 most, .slice va ln cn, .slice vb ll cl] w fun e w' => e = .returned (.bool true) ∧ Below w.heap.size w w' := by
  by_cases h0 : most < 0
  · exact walk_neg most _ _ w h0
  by_cases h1 : 3 < most
  · exact walk_big most _ _ w h1
  · exact walk_ok most va vb ln cn ll cl F Z w (by omega) (by omega) hF hZ
end Go.Proofs.Ytaopgjonhgddoae.LStarts
