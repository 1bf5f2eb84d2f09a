/-
  The walk of the Go function OutPlays: it returns true. Its condition: package errors' variable errorType is as its text lays it.
-/
import Derived.Test.YtblmjllignibgafDoorOutC
import Derived.Test.YtblmjllignibgafDoorROut
import Derived.Test.YtblmjllignibgafDoorSame
import Derived.Test.YtblmjllignibgafDoorTold
import Derived.Test.YtblmjllignibgafDoorOpenP
import Derived.LoopTactic
import Derived.Deep.CutRange
import Derived.Deep.LoopGhost
namespace Go.Proofs.YtblmjllignibgafDoor.OutPlays
open Go.ChangeShapes Go.WideShapes Go.ChangeAt Go.RowKit Go.Proofs.YtblmjllignibgafDoor.PM Go.Proofs.YtblmjllignibgafDoor.Mem Go.Proofs.YtblmjllignibgafDoor.Pack Go.Proofs.YtblmjllignibgafDoor.UM Go.Proofs.YtblmjllignibgafDoor.Out Go.Proofs.YtblmjllignibgafDoor.RPack Go.Proofs.YtblmjllignibgafDoor.ROut
set_option linter.unusedVariables false

/-- an error of a number is the one told -/
theorem told_f (f : Nat) (W : World) (hf : f ≤ 100) (hg : W.cell? ⟨0, 0, none⟩ = some (.iface 66 (.agg #[.pointer (some ⟨1, 25, none⟩)]))) :
    Calls Tryd.prog 7 #[errv f, .int .i64 (f : Int)] W fun e w' => e = .returned (.bool true) ∧ Below W.heap.size W w' := by
  by_cases h0 : f = 0
  · subst h0
    refine (Told.same_nil 0 W).mono ?_
    rintro e w' ⟨rfl, rfl⟩
    exact ⟨rfl, Below.refl _ _⟩
  · rw [errv_pos h0]
    refine (Told.same_err f f W (by omega) (by omega) hg).mono ?_
    rintro e w' ⟨rfl, hb⟩
    exact ⟨by simp, hb⟩
theorem hg_of {w W : World} {u : Value} (h : w.cell? ⟨0, 0, none⟩ = some u) (hb : Below w.heap.size w W) : W.cell? ⟨0, 0, none⟩ = some u := (hb.cell (World.block_lt_of_cell? w ⟨0, 0, none⟩ h)).trans h
/-- both Outs, side by side -/
structure BSt (w W : World) (b rb : Nat) (S : Int) (k : Nat) (T ly ow : Int) : Prop where
  out : OutAt W b S k T ly ow
  ref : ∃ s0 q0 st0 bv0, RefAt W rb (rs S k) T k s0 ow ly q0 st0 bv0
  inv : UM.Inv S k T ow
  bel : Below w.heap.size w W
  hb : w.heap.size ≤ b
  hr : w.heap.size ≤ rb
  ne : b ≠ rb
theorem BSt.below {w W W' : World} {b rb : Nat} {S : Int} {k : Nat} {T ly ow : Int} (h : BSt w W b rb S k T ly ow) (hb : Below W.heap.size W W') : BSt w W' b rb S k T ly ow := by
  obtain ⟨s0, q0, st0, bv0, hr⟩ := h.ref
  exact ⟨h.out.below hb, ⟨s0, q0, st0, bv0, hr.below hb⟩, h.inv, h.bel.trans (hb.mono h.bel.size), h.hb, h.hr, h.ne⟩
/-- a packet that went out of the reference's Out alone -/
structure HSt (w W : World) (b rb : Nat) (S : Int) (k : Nat) (T ly ow T' l t : Int) : Prop where
  out : OutAt W b S k T ly ow
  ref : ∃ s0 q0 st0 bv0, RefAt W rb (sq S k) T' (k + 1) s0 t l q0 st0 bv0
  inv : UM.Inv S k T ow
  inv' : UM.Inv S (k + 1) T' t
  bel : Below w.heap.size w W
  hb : w.heap.size ≤ b
  hr : w.heap.size ≤ rb
  ne : b ≠ rb
theorem HSt.below {w W W' : World} {b rb : Nat} {S : Int} {k : Nat} {T ly ow T' l t : Int} (h : HSt w W b rb S k T ly ow T' l t) (hb : Below W.heap.size W W') : HSt w W' b rb S k T ly ow T' l t := by
  obtain ⟨s0, q0, st0, bv0, hr⟩ := h.ref
  exact ⟨h.out.below hb, ⟨s0, q0, st0, bv0, hr.below hb⟩, h.inv, h.inv', h.bel.trans (hb.mono h.bel.size), h.hb, h.hr, h.ne⟩
theorem ref_next (w : World) (b rb : Nat) (S : Int) (k : Nat) (T ly ow : Int) (s t l q : Int) (st : Bool) (ad : Option Addr) (m c : Nat) (W : World) (h : BSt w W b rb S k T ly ow) (hk : k < 1000) (hf : fault s t l q m = 0) :
    Calls Tryd.prog 8 #[.pointer (some ⟨rb, 0, none⟩), .agg #[.int .i64 s, .int .i64 t, .int .i64 l, .int .i64 q, .bool st, .slice ad m c]] W fun e w' => e = .returned (.tuple #[.agg #[.int .i64 (sq S k), .int .i64 (nt k T ly ow l t), .int .i64 l, .int .i64 q, .bool st, .slice ad m c], .int .i64 0]) ∧
      HSt w w' b rb S k T ly ow (nt k T ly ow l t) l t := by
  have ht : 0 ≤ t ∧ t ≤ 4294967295 := by obtain ⟨_, t', _, _, _, ht, _, _, _, ht1, _⟩ := fault_zero hf; omega
  obtain ⟨s0, q0, st0, bv0, hr⟩ := h.ref
  refine (rnext_ok rb S T k s0 ow ly q0 st0 bv0 s t l q st ad m c W hr h.inv hk hf).mono ?_
  rintro e w' ⟨rfl, h1, h2⟩
  exact ⟨rfl, h.out.only h2 (by simp; exact h.ne), ⟨s, q, st, _, h1⟩, h.inv, h.inv.next hk ht.1 ht.2, h.bel.trans (h2.below h.bel.size (by simp; exact h.hr)), h.hb, h.hr, h.ne⟩
theorem out_next (w : World) (b rb : Nat) (S : Int) (k : Nat) (T ly ow : Int) (s t l q : Int) (st : Bool) (ad : Option Addr) (m c : Nat) (L : List Nat) (W : World) (h : HSt w W b rb S k T ly ow (nt k T ly ow l t) l t) (hk : k < 1000) (hf : fault s t l q m = 0) (hA : Arg w ad m L) (hN : ad = none → m = 0 ∧ c = 0) :
    Calls Tryd.prog 9 #[.pointer (some ⟨b, 0, none⟩), .agg #[.int .i64 s, .int .i64 t, .int .i64 l, .int .i64 q, .bool st, .slice ad m c]] W fun e w' => ∃ a' c', e = .returned (.tuple #[.agg #[.int .i64 (sq S k), .int .i64 (nt k T ly ow l t), .int .i64 l, .int .i64 q, .bool st, .slice a' m c'], .nilIface]) ∧
      BSt w w' b rb S (k + 1) (nt k T ly ow l t) l t ∧ Arg w' a' m L ∧ Only [b] W w' := by
  refine (next_ok b S k T ly ow s t l q st ad m c L W h.out h.inv hk hf (hA.below h.bel) hN).mono ?_
  rintro e w' ⟨a', c', rfl, h1, h2, _, h3⟩
  obtain ⟨s0, q0, st0, bv0, hr⟩ := h.ref
  have hr' := hr.only h3 (by simp; exact fun e => h.ne e.symm)
  rw [← rs_next] at hr'
  exact ⟨a', c', rfl, ⟨h1, ⟨s0, q0, st0, bv0, hr'⟩, h.inv', h.bel.trans (h3.below h.bel.size (by simp; exact h.hb)), h.hb, h.hr, h.ne⟩, h2, h3⟩

set_option maxHeartbeats 2000000 in
set_option maxRecDepth 100000 in
theorem walk_s (S D : Int) (vl : Value) (w : World) (hg : w.cell? ⟨0, 0, none⟩ = some (.iface 66 (.agg #[.pointer (some ⟨1, 25, none⟩)]))) (h : S < 0 ∨ 65535 < S) :
    Calls Tryd.prog 3 #[.int .i64 S, .int .i64 D, vl] w fun e w' => e = .returned (.bool true) ∧ Below w.heap.size w w' := by
  have HN := hidden (fun W => new_err S D W (by omega))
  have HS : Hid (∀ W, Calls Tryd.prog 5 #[.int .i64 S] W fun e w' => e = .returned (.bool false) ∧ w' = W) := hidden (fun W => by have := rseq_calls S W; rw [decide_eq_false (by omega)] at this; exact this)
  have HW := hidden (fun W => rword_calls D W)
  generalize decide (0 ≤ D ∧ D ≤ 4294967295) = bb at *
  have HG := hidden hg
  clear hg h
  go_enter Tryd.func3, Tryd.ntmps3
  go_wp2_with fail
  refine (HN.out _).mono ?_
  rintro e w1 ⟨rfl, rfl⟩
  go_wp2_with fail
  refine (HS.out _).mono ?_
  rintro e w1 ⟨rfl, rfl⟩
  go_wp2_with fail
  refine (HW.out _).mono ?_
  rintro e w1 ⟨rfl, rfl⟩
  go_wp2_with fail
  refine (Told.same_err 1 1 _ (by decide) (by decide) HG.out).mono ?_
  rintro e w2 ⟨rfl, hb⟩
  go_wp2_with fail
  go_ret
  exact ⟨rfl, hb⟩
set_option maxHeartbeats 2000000 in
set_option maxRecDepth 100000 in
theorem walk_t (S D : Int) (vl : Value) (w : World) (hg : w.cell? ⟨0, 0, none⟩ = some (.iface 66 (.agg #[.pointer (some ⟨1, 25, none⟩)]))) (h0 : 0 ≤ S) (h1 : S ≤ 65535) (h : D < 0 ∨ 4294967295 < D) :
    Calls Tryd.prog 3 #[.int .i64 S, .int .i64 D, vl] w fun e w' => e = .returned (.bool true) ∧ Below w.heap.size w w' := by
  have HN := hidden (fun W => new_err S D W (by omega))
  have HS : Hid (∀ W, Calls Tryd.prog 5 #[.int .i64 S] W fun e w' => e = .returned (.bool true) ∧ w' = W) := hidden (fun W => by have := rseq_calls S W; rw [decide_eq_true ⟨h0, h1⟩] at this; exact this)
  have HW : Hid (∀ W, Calls Tryd.prog 6 #[.int .i64 D] W fun e w' => e = .returned (.bool false) ∧ w' = W) := hidden (fun W => by have := rword_calls D W; rw [decide_eq_false (by omega)] at this; exact this)
  have HG := hidden hg
  clear hg h
  go_enter Tryd.func3, Tryd.ntmps3
  go_wp2_with fail
  refine (HN.out _).mono ?_
  rintro e w1 ⟨rfl, rfl⟩
  go_wp2_with fail
  refine (HS.out _).mono ?_
  rintro e w1 ⟨rfl, rfl⟩
  go_wp2_with fail
  refine (HW.out _).mono ?_
  rintro e w1 ⟨rfl, rfl⟩
  go_wp2_with fail
  refine (Told.same_err 1 1 _ (by decide) (by decide) HG.out).mono ?_
  rintro e w2 ⟨rfl, hb⟩
  go_wp2_with fail
  go_ret
  exact ⟨rfl, hb⟩

set_option maxHeartbeats 8000000 in
set_option maxRecDepth 100000 in
theorem walk_ok (S D : Int) (va : Option Addr) (ln cn : Nat) (F : Nat → Open.Pk) (w : World) (hg : w.cell? ⟨0, 0, none⟩ = some (.iface 66 (.agg #[.pointer (some ⟨1, 25, none⟩)]))) (h0 : 0 ≤ S) (h1 : S ≤ 65535) (h2 : 0 ≤ D) (h3 : D ≤ 4294967295) (hF : Open.Pks w va ln F) :
    Calls Tryd.prog 3 #[.int .i64 S, .int .i64 D, .slice va ln cn] w fun e w' => e = .returned (.bool true) ∧ Below w.heap.size w w' := by
  have HN := hidden (fun W => new_ok S D W h0 h1 h2 h3)
  have HS : Hid (∀ W, Calls Tryd.prog 5 #[.int .i64 S] W fun e w' => e = .returned (.bool true) ∧ w' = W) := hidden (fun W => by have := rseq_calls S W; rw [decide_eq_true ⟨h0, h1⟩] at this; exact this)
  have HW : Hid (∀ W, Calls Tryd.prog 6 #[.int .i64 D] W fun e w' => e = .returned (.bool true) ∧ w' = W) := hidden (fun W => by have := rword_calls D W; rw [decide_eq_true ⟨h2, h3⟩] at this; exact this)
  have HG := hidden hg
  have hln := hF.1
  have HFs := hidden hF.2
  clear hF hg
  go_enter Tryd.func3, Tryd.ntmps3
  go_wp2_with fail
  refine (HN.out _).mono ?_
  rintro e w1 ⟨b, rfl, hb, hL, hB⟩
  have HL1 := hidden hL
  have HB1 := hidden hB
  clear hL hB HN
  go_wp2_with fail
  refine (HS.out _).mono ?_
  rintro e w2 ⟨rfl, rfl⟩
  go_wp2_with fail
  refine (HW.out _).mono ?_
  rintro e w2 ⟨rfl, rfl⟩
  go_wp2_with fail
  refine (Told.same_nil 0 _).mono ?_
  rintro e w2 ⟨rfl, rfl⟩
  clear HS HW
  go_wp2_with fail
  obtain ⟨w3, hw3⟩ : ∃ w3, w2.alloc (.cells #[.int .i64 S, .int .i64 D, .int .i64 0, .int .i64 0, .int .i64 0, .int .i64 0, .int .i64 0, .bool false, .slice none 0 0] 35) = w3 := ⟨_, rfl⟩
  have HS0 : Hid (BSt w w3 b w2.heap.size S 0 D 0 0) := by
    rw [← hw3]
    exact ⟨HL1.out.alloc _, ⟨0, 0, false, .slice none 0 0, heap_alloc_new w2 _⟩, UM.inv_start h0 h1 h2 h3, HB1.out.alloc HB1.out.size _, hb, HB1.out.size, by have := HL1.out.lt; omega⟩
  rw [hw3]
  clear hw3 HL1 HB1 hb
  obtain ⟨rb, hrb⟩ : ∃ rb, w2.heap.size = rb := ⟨_, rfl⟩
  rw [hrb] at HS0
  rw [hrb]
  clear hrb
  go_loopg [14] 60 (fun g y14 wr => ∃ (i k : Nat) (T ly ow : Int), i + g = 60 ∧ k ≤ i ∧ y14 = .int .i64 (i : Int) ∧ Hid (BSt w wr b rb S k T ly ow))
  case atStart => exact ⟨0, 0, D, 0, 0, by omega, by omega, rfl, HS0⟩
  case round =>
    obtain ⟨i, k, T, ly, ow, hig, hki, rfl, HSr⟩ := hrel
    clear HS0
    by_cases hi : i < ln
    case neg =>
      have hiz : ¬ (i : Int) < (ln : Int) := by omega
      have di : decide ((i : Int) < (ln : Int)) = false := by simpa using hiz
      go_wp2_with fail
      go_ret
      exact ⟨rfl, HSr.out.bel⟩
    case pos =>
    have hiz : (i : Int) < (ln : Int) := by omega
    have di : decide ((i : Int) < (ln : Int)) = true := by simpa using hiz
    by_cases hi8 : i < 60
    case neg =>
      have hiz8 : ¬ (i : Int) < 60 := by omega
      go_wp2_with fail
      go_ret
      exact ⟨rfl, HSr.out.bel⟩
    case pos =>
    have hiz8 : (i : Int) < 60 := by omega
    have hi0 : (0 : Int) ≤ (i : Int) := by omega
    obtain ⟨ib, io, rfl, hil, hat, hok⟩ := HFs.out i hi
    obtain ⟨⟨s, t, l, q, st, ad, m, c, L⟩, hFk⟩ : ∃ P, F i = P := ⟨_, rfl⟩
    rw [hFk] at hat hok
    clear hFk
    obtain ⟨i0, i1, i2, i3, i4, i5⟩ := hat
    simp only at i0 i1 i2 i3 i4 i5
    have HOK : Hid (Arg w ad m L ∧ (ad = none → m = 0 ∧ c = 0)) := hidden hok
    clear hok
    have hold : ∀ W (o : Nat) u, Below w.heap.size w W → w.cell? ⟨ib, o, none⟩ = some u → W.cell? ⟨ib, o, none⟩ = some u := fun W o u hb hc => (hb.cell (p := ⟨ib, o, none⟩) hil).trans hc
    have HOld := hidden hold
    have HI : Hid (w.cell? ⟨ib, io + i * 6, none⟩ = some (.int .i64 s) ∧ w.cell? ⟨ib, io + i * 6 + 1, none⟩ = some (.int .i64 t) ∧ w.cell? ⟨ib, io + i * 6 + 2, none⟩ = some (.int .i64 l) ∧ w.cell? ⟨ib, io + i * 6 + 3, none⟩ = some (.int .i64 q) ∧ w.cell? ⟨ib, io + i * 6 + 4, none⟩ = some (.bool st) ∧ w.cell? ⟨ib, io + i * 6 + 5, none⟩ = some (.slice ad m c)) := hidden ⟨i0, i1, i2, i3, i4, i5⟩
    clear hold i0 i1 i2 i3 i4 i5
    have j0 := HOld.out _ _ _ HSr.out.bel HI.out.1
    have j1 := HOld.out _ _ _ HSr.out.bel HI.out.2.1
    have j2 := HOld.out _ _ _ HSr.out.bel HI.out.2.2.1
    have j3 := HOld.out _ _ _ HSr.out.bel HI.out.2.2.2.1
    have j4 := HOld.out _ _ _ HSr.out.bel HI.out.2.2.2.2.1
    have j5 := HOld.out _ _ _ HSr.out.bel HI.out.2.2.2.2.2
    obtain ⟨f, hf⟩ : ∃ f, fault s t l q m = f := ⟨_, rfl⟩
    have hf100 : f ≤ 100 := by rw [← hf]; rcases fault_cases s t l q m with e | e | e <;> omega
    by_cases hf0 : f = 0
    case neg =>
      have HR : Hid (∀ W, BSt w W b rb S k T ly ow → Calls Tryd.prog 8 #[.pointer (some ⟨rb, 0, none⟩), .agg #[.int .i64 s, .int .i64 t, .int .i64 l, .int .i64 q, .bool st, .slice ad m c]] W fun e w' => e = .returned (.tuple #[.agg #[.int .i64 0, .int .i64 0, .int .i64 0, .int .i64 0, .bool false, .slice none 0 0], .int .i64 (f : Int)]) ∧ Below W.heap.size W w') := by
        refine hidden (fun W hW => ?_)
        obtain ⟨s0, q0, st0, bv0, hr⟩ := hW.ref
        have := rnext_err rb (rs S k) T k s0 ow ly q0 st0 bv0 s t l q st ad m c W hr (by rw [hf]; exact hf0)
        rw [hf] at this
        exact this
      have HE : Hid (∀ W, BSt w W b rb S k T ly ow → Calls Tryd.prog 9 #[.pointer (some ⟨b, 0, none⟩), .agg #[.int .i64 s, .int .i64 t, .int .i64 l, .int .i64 q, .bool st, .slice ad m c]] W fun e w' => e = .returned (.tuple #[.agg #[.int .i64 0, .int .i64 0, .int .i64 0, .int .i64 0, .bool false, .slice none 0 0], errv f]) ∧ Below W.heap.size W w') := by
        refine hidden (fun W hW => ?_)
        have := next_err b S k T ly ow s t l q st ad m c W hW.out (by rw [hf]; exact hf0)
        rw [hf] at this
        exact this
      clear hf hf0
      go_wp2_with fail
      refine (HR.out _ HSr.out).mono ?_
      rintro e w4 ⟨rfl, hb4⟩
      obtain ⟨w5, hw5⟩ : ∃ w5, w4.alloc (.cells #[.int .i64 0, .int .i64 0, .int .i64 0, .int .i64 0, .bool false, .slice none 0 0] 33) = w5 := ⟨_, rfl⟩
      have HS5 : Hid (BSt w w5 b rb S k T ly ow) := by rw [← hw5]; exact (HSr.out.below hb4).below ((Below.refl _ _).alloc (Nat.le_refl _) _)
      have HX5 : Hid (Box w5 w4.heap.size 0 0 0 0 false (.slice none 0 0)) := by rw [← hw5]; exact Box.new w4 _ _ _ _ _ _
      have HW5 := hidden hw5
      clear hw5 hb4 HSr HR j0 j1 j2 j3 j4 j5
      have j0 := HOld.out _ _ _ HS5.out.bel HI.out.1
      have j1 := HOld.out _ _ _ HS5.out.bel HI.out.2.1
      have j2 := HOld.out _ _ _ HS5.out.bel HI.out.2.2.1
      have j3 := HOld.out _ _ _ HS5.out.bel HI.out.2.2.2.1
      have j4 := HOld.out _ _ _ HS5.out.bel HI.out.2.2.2.2.1
      have j5 := HOld.out _ _ _ HS5.out.bel HI.out.2.2.2.2.2
      go_upto_region 15 with fail
      rw [HW5.out]
      clear HW5
      obtain ⟨xb, hxb⟩ : ∃ xb, w4.heap.size = xb := ⟨_, rfl⟩
      rw [hxb] at HX5
      rw [hxb]
      clear hxb
      go_wp2_with fail
      refine (HE.out _ HS5.out).mono ?_
      rintro e w6 ⟨rfl, hb6⟩
      obtain ⟨w7, hw7⟩ : ∃ w7, w6.alloc (.cells #[.int .i64 0, .int .i64 0, .int .i64 0, .int .i64 0, .bool false, .slice none 0 0] 33) = w7 := ⟨_, rfl⟩
      have hb7 : Below w5.heap.size w5 w7 := by rw [← hw7]; exact hb6.alloc hb6.size _
      have HS7 : Hid (BSt w w7 b rb S k T ly ow) := HS5.out.below hb7
      have HX7 : Hid (Box w7 xb 0 0 0 0 false (.slice none 0 0)) := HX5.out.below hb7 HX5.out.lt
      have HY7 : Hid (Box w7 w6.heap.size 0 0 0 0 false (.slice none 0 0)) := by rw [← hw7]; exact Box.new w6 _ _ _ _ _ _
      have HW7 := hidden hw7
      clear hw7 hb7 hb6 HS5 HX5 HE j0 j1 j2 j3 j4 j5
      go_upto_region 16 with fail
      rw [HW7.out]
      clear HW7
      obtain ⟨yb, hyb⟩ : ∃ yb, w6.heap.size = yb := ⟨_, rfl⟩
      rw [hyb] at HY7
      rw [hyb]
      clear hyb
      go_wp2_with fail
      refine (told_f f _ hf100 (hg_of HG.out HS7.out.bel)).mono ?_
      rintro e w8 ⟨rfl, hb8⟩
      have HS8 := hidden (HS7.out.below hb8)
      have HX8 := hidden (HX7.out.below hb8 HX7.out.lt)
      have HY8 := hidden (HY7.out.below hb8 HY7.out.lt)
      clear hb8 HS7 HX7 HY7
      obtain ⟨x0, x1, x2, x3, x4, x5⟩ := HX8.out.cells
      obtain ⟨y0, y1, y2, y3, y4, y5⟩ := HY8.out.cells
      have HNil : Hid (∀ W : World, Arg W none 0 []) := hidden (fun W => ⟨Bys.nil _ _, rfl, by omega⟩)
      go_wp2_with fail
      refine (same_pk 0 0 0 0 false none none 0 0 0 0 [] _ (HNil.out _) (HNil.out _)).mono ?_
      rintro e w9 ⟨rfl, hb9⟩
      have HSz := hidden (HS8.out.below hb9)
      clear hb9 HS8 HX8 HY8 x0 x1 x2 x3 x4 x5 y0 y1 y2 y3 y4 y5
      have HSent := hidden (fun W hW => sent_calls b S k T ly ow W hW)
      have hr2 : w9.cell? ⟨rb, 2, none⟩ = some (.int .i64 (k : Int)) := by obtain ⟨s0, q0, st0, bv0, hr⟩ := HSz.out.ref; exact hr.cells.2.2.1
      have dn : ((k : Int) != (k : Int)) = false := by simp
      go_wp2_with fail
      go_quiet ((go_at_call 11; exact Calls.quiet_of_same (HSent.out _ (by exact HSz.out.out))))
      go_wp2_with fail
      go_roundg (60 - (i + 1))
      case measure => omega
      case rel => exact ⟨i + 1, k, T, ly, ow, by omega, by omega, by go_num, hidden (HSz.out.below (below_drewN (Below.refl _ _) _))⟩
    case pos =>
    subst hf0
    have HR := hidden (fun W hW => ref_next w b rb S k T ly ow s t l q st ad m c W hW (by omega) hf)
    have HE := hidden (fun W hW => out_next w b rb S k T ly ow s t l q st ad m c L W hW (by omega) hf HOK.out.1 HOK.out.2)
    generalize nt k T ly ow l t = T' at *
    generalize sq S k = Q at *
    clear hf
    go_wp2_with fail
    refine (HR.out _ HSr.out).mono ?_
    rintro e w4 ⟨rfl, hS4⟩
    obtain ⟨w5, hw5⟩ : ∃ w5, w4.alloc (.cells #[.int .i64 Q, .int .i64 T', .int .i64 l, .int .i64 q, .bool st, .slice ad m c] 33) = w5 := ⟨_, rfl⟩
    have HS5 : Hid (HSt w w5 b rb S k T ly ow T' l t) := by rw [← hw5]; exact hS4.below ((Below.refl _ _).alloc (Nat.le_refl _) _)
    have HX5 : Hid (Box w5 w4.heap.size Q T' l q st (.slice ad m c)) := by rw [← hw5]; exact Box.new w4 _ _ _ _ _ _
    have HLt : Hid (b < w4.heap.size) := hS4.out.lt
    have HW5 := hidden hw5
    clear hw5 hS4 HSr HR j0 j1 j2 j3 j4 j5
    have j0 := HOld.out _ _ _ HS5.out.bel HI.out.1
    have j1 := HOld.out _ _ _ HS5.out.bel HI.out.2.1
    have j2 := HOld.out _ _ _ HS5.out.bel HI.out.2.2.1
    have j3 := HOld.out _ _ _ HS5.out.bel HI.out.2.2.2.1
    have j4 := HOld.out _ _ _ HS5.out.bel HI.out.2.2.2.2.1
    have j5 := HOld.out _ _ _ HS5.out.bel HI.out.2.2.2.2.2
    go_upto_region 15 with fail
    rw [HW5.out]
    clear HW5
    obtain ⟨xb, hxb⟩ : ∃ xb, w4.heap.size = xb := ⟨_, rfl⟩
    rw [hxb] at HX5 HLt
    rw [hxb]
    clear hxb
    go_wp2_with fail
    refine (HE.out _ HS5.out).mono ?_
    rintro e w6 ⟨a', c', rfl, hS6, hA6, ho6⟩
    obtain ⟨w7, hw7⟩ : ∃ w7, w6.alloc (.cells #[.int .i64 Q, .int .i64 T', .int .i64 l, .int .i64 q, .bool st, .slice a' m c'] 33) = w7 := ⟨_, rfl⟩
    have hb7 : Below w6.heap.size w6 w7 := by rw [← hw7]; exact (Below.refl _ _).alloc (Nat.le_refl _) _
    have HS7 : Hid (BSt w w7 b rb S (k + 1) T' l t) := hS6.below hb7
    have hX6 : Box w6 xb Q T' l q st (.slice ad m c) := ho6.block HX5.out (by have := HLt.out; simp; omega)
    have HX7 : Hid (Box w7 xb Q T' l q st (.slice ad m c)) := hX6.below hb7 hX6.lt
    have HY7 : Hid (Box w7 w6.heap.size Q T' l q st (.slice a' m c')) := by rw [← hw7]; exact Box.new w6 _ _ _ _ _ _
    have HA7 : Hid (Arg w7 a' m L) := hA6.below hb7
    have HW7 := hidden hw7
    clear hw7 hb7 hS6 hA6 ho6 hX6 HS5 HX5 HE j0 j1 j2 j3 j4 j5 HLt
    go_upto_region 16 with fail
    rw [HW7.out]
    clear HW7
    obtain ⟨yb, hyb⟩ : ∃ yb, w6.heap.size = yb := ⟨_, rfl⟩
    rw [hyb] at HY7
    rw [hyb]
    clear hyb
    go_wp2_with fail
    refine (Told.same_nil 0 _).mono ?_
    rintro e w8 ⟨rfl, rfl⟩
    obtain ⟨x0, x1, x2, x3, x4, x5⟩ := HX7.out.cells
    obtain ⟨y0, y1, y2, y3, y4, y5⟩ := HY7.out.cells
    go_wp2_with fail
    refine (same_pk Q T' l q st a' ad m m c' c L _ HA7.out (HOK.out.1.below HS7.out.bel)).mono ?_
    rintro e w9 ⟨rfl, hb9⟩
    have HSz := hidden (HS7.out.below hb9)
    clear hb9 HS7 HX7 HY7 HA7 x0 x1 x2 x3 x4 x5 y0 y1 y2 y3 y4 y5
    have hr2 : w9.cell? ⟨rb, 2, none⟩ = some (.int .i64 ((k : Int) + 1)) := by obtain ⟨s0, q0, st0, bv0, hr⟩ := HSz.out.ref; exact hr.cells.2.2.1
    have HSent : Hid (∀ W, OutAt W b S (k + 1) T' l t → Calls Tryd.prog 11 #[.pointer (some ⟨b, 0, none⟩)] W fun e w' => e = .returned (.int .i64 ((k : Int) + 1)) ∧ w' = W) := hidden (fun W hW => sent_calls b S (k + 1) T' l t W hW)
    have dn : ((k : Int) + 1 != (k : Int) + 1) = false := by simp
    go_wp2_with fail
    go_quiet ((go_at_call 11; exact Calls.quiet_of_same (HSent.out _ (by exact HSz.out.out))))
    go_wp2_with fail
    go_roundg (60 - (i + 1))
    case measure => omega
    case rel => exact ⟨i + 1, k + 1, T', l, t, by omega, by omega, by go_num, hidden (HSz.out.below (below_drewN (Below.refl _ _) _))⟩
theorem walk (S D : Int) (va : Option Addr) (ln cn : Nat) (F : Nat → Open.Pk) (w : World) (hg : w.cell? ⟨0, 0, none⟩ = some (.iface 66 (.agg #[.pointer (some ⟨1, 25, none⟩)]))) (hF : Open.Pks w va ln F) :
    Calls Tryd.prog 3 #[.int .i64 S, .int .i64 D, .slice va ln cn] w fun e w' => e = .returned (.bool true) ∧ Below w.heap.size w w' := by
  by_cases h0 : S < 0 ∨ 65535 < S
  · exact walk_s S D _ w hg h0
  by_cases h1 : D < 0 ∨ 4294967295 < D
  · exact walk_t S D _ w hg (by omega) (by omega) h1
  · exact walk_ok S D va ln cn F w hg (by omega) (by omega) (by omega) (by omega) hF
end Go.Proofs.YtblmjllignibgafDoor.OutPlays
