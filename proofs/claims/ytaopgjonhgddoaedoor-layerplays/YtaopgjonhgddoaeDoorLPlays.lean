/-
  The walk of the Go function LayerPlays: it returns true. Its condition: package errors' variable errorType is as its text lays it.
-/
import Derived.Test.YtaopgjonhgddoaeDoorLayerC
import Derived.Test.YtaopgjonhgddoaeDoorRLayer
import Derived.Test.YtaopgjonhgddoaeDoorTold
import Derived.Test.YtaopgjonhgddoaeDoorOpenI
import Derived.LoopTactic
import Derived.Deep.CutRange
import Derived.Deep.LoopGhost
namespace Go.Proofs.YtaopgjonhgddoaeDoor.LPlays
open Go.ChangeShapes Go.WideShapes Go.ChangeAt Go.RowKit Go.Proofs.YtaopgjonhgddoaeDoor.PM Go.Proofs.YtaopgjonhgddoaeDoor.Mem Go.Proofs.YtaopgjonhgddoaeDoor.Pack Go.Proofs.YtaopgjonhgddoaeDoor.LM Go.Proofs.YtaopgjonhgddoaeDoor.Layer Go.Proofs.YtaopgjonhgddoaeDoor.RLayer
set_option linter.unusedVariables false

/-- an error of a number is the one told -/
theorem told_f (f : Nat) (W : World) (hf : f ≤ 100) (hg : W.cell? ⟨0, 0, none⟩ = some (.iface 109 (.agg #[.pointer (some ⟨1, 26, none⟩)]))) :
    Calls Tryd.prog 6 #[errv f, .int .i64 (f : Int)] W fun e w' => e = .returned (.bool true) ∧ Below W.heap.size W w' := by
  by_cases h0 : f = 0
  · subst h0
    refine (Told.same_nil 0 W).mono ?_
    rintro e w' ⟨rfl, rfl⟩
    exact ⟨rfl, Below.refl _ _⟩
  · rw [errv_pos h0]
    refine (Told.same_err f f W (by omega) (by omega) hg).mono ?_
    rintro e w' ⟨rfl, hb⟩
    exact ⟨by simp, hb⟩
/-- both Layers, side by side -/
structure BSt (w W : World) (b rb : Nat) (mo nw la : Int) (br : Bool) : Prop where
  lay : LayerAt W b mo nw la br
  ref : RefAt W rb mo nw la br
  inv : LM.Inv mo nw la br
  bel : Below w.heap.size w W
  hb : w.heap.size ≤ b
  hr : w.heap.size ≤ rb
theorem BSt.ne {w W : World} {b rb : Nat} {mo nw la : Int} {br : Bool} (h : BSt w W b rb mo nw la br) : b ≠ rb := by
  intro e
  have h1 := h.lay
  have h2 := h.ref
  rw [e] at h1
  simp only [LayerAt, RefAt] at h1 h2
  rw [h1] at h2
  simp at h2
theorem BSt.below {w W W' : World} {b rb : Nat} {mo nw la : Int} {br : Bool} (h : BSt w W b rb mo nw la br) (hb : Below W.heap.size W W') : BSt w W' b rb mo nw la br :=
  ⟨h.lay.below hb, h.ref.below hb, h.inv, h.bel.trans (hb.mono h.bel.size), h.hb, h.hr⟩
/-- an item that was Taken by the reference's Layer alone -/
structure HSt (w W : World) (b rb : Nat) (mo nw la : Int) (br : Bool) (nw2 la2 : Int) (br2 : Bool) : Prop where
  lay : LayerAt W b mo nw la br
  ref : RefAt W rb mo nw2 la2 br2
  inv : LM.Inv mo nw2 la2 br2
  bel : Below w.heap.size w W
  hb : w.heap.size ≤ b
  hr : w.heap.size ≤ rb
  ne : b ≠ rb
theorem hg_of {w W : World} {u : Value} (h : w.cell? ⟨0, 0, none⟩ = some u) (hb : Below w.heap.size w W) : W.cell? ⟨0, 0, none⟩ = some u := (hb.cell (World.block_lt_of_cell? w ⟨0, 0, none⟩ h)).trans h
theorem limit_s (w : World) (b rb : Nat) (mo mo2 nw la y : Int) (br : Bool) (W : World) (h0 : 0 ≤ y) (h1 : y ≤ 3) (hl : LayerAt W b mo nw la br) (hR : RefAt W rb y nw la br) (hI : LM.Inv y nw la br) (hB : Below w.heap.size w W) (hb : w.heap.size ≤ b) (hr : w.heap.size ≤ rb) (hne : b ≠ rb) :
    Calls Tryd.prog 16 #[.pointer (some ⟨b, 0, none⟩), .int .i64 y] W fun e w' => e = .returned .nilIface ∧ BSt w w' b rb y nw la br := by
  refine (limit_ok b mo nw la y br W hl h0 h1).mono ?_
  rintro e w' ⟨rfl, hL, ho⟩
  exact ⟨rfl, hL, hR.only ho (by simp; exact fun e => hne e.symm), hI, hB.trans (ho.below hB.size (by simp; exact hb)), hb, hr⟩

set_option maxHeartbeats 1000000 in
set_option maxRecDepth 100000 in
theorem walk_neg (most : Int) (vs vp : Value) (w : World) (hg : w.cell? ⟨0, 0, none⟩ = some (.iface 109 (.agg #[.pointer (some ⟨1, 26, none⟩)]))) (h : most < 0) :
    Calls Tryd.prog 4 #[.int .i64 most, vs, vp] w fun e w' => e = .returned (.bool true) ∧ Below w.heap.size w w' := by
  have HN := hidden (fun w => new_err most w (by omega))
  have HG := hidden hg
  rw [errv_pos (by decide)] at HN
  clear hg
  go_enter Tryd.func4, Tryd.ntmps4
  go_wp2_with fail
  refine (HN.out _).mono ?_
  rintro e w' ⟨rfl, rfl⟩
  go_wp2_with fail
  refine (Told.same_err 1 1 _ (by decide) (by decide) HG.out).mono ?_
  rintro e w1 ⟨rfl, hb⟩
  go_wp2_with fail
  go_ret
  exact ⟨rfl, hb⟩
set_option maxHeartbeats 1000000 in
set_option maxRecDepth 100000 in
theorem walk_big (most : Int) (vs vp : Value) (w : World) (hg : w.cell? ⟨0, 0, none⟩ = some (.iface 109 (.agg #[.pointer (some ⟨1, 26, none⟩)]))) (h : 3 < most) :
    Calls Tryd.prog 4 #[.int .i64 most, vs, vp] w fun e w' => e = .returned (.bool true) ∧ Below w.heap.size w w' := by
  have HN := hidden (fun w => new_err most w (by omega))
  have HG := hidden hg
  rw [errv_pos (by decide)] at HN
  clear hg
  go_enter Tryd.func4, Tryd.ntmps4
  go_wp2_with fail
  refine (HN.out _).mono ?_
  rintro e w' ⟨rfl, rfl⟩
  go_wp2_with fail
  refine (Told.same_err 1 1 _ (by decide) (by decide) HG.out).mono ?_
  rintro e w1 ⟨rfl, hb⟩
  go_wp2_with fail
  go_ret
  exact ⟨rfl, hb⟩
set_option maxHeartbeats 16000000 in
set_option maxRecDepth 100000 in
theorem walk_ok (most : Int) (va vb : Option Addr) (ln cn ll cl : Nat) (F : Nat → Open.It) (Z : Nat → Int) (w : World) (hg : w.cell? ⟨0, 0, none⟩ = some (.iface 109 (.agg #[.pointer (some ⟨1, 26, none⟩)]))) (h0 : 0 ≤ most) (h1 : most ≤ 3) (hF : Open.Items w va ln F) (hZ : Open.Nums w vb ll Z) :
    Calls Tryd.prog 4 #[.int .i64 most, .slice va ln cn, .slice vb ll cl] w fun e w' => e = .returned (.bool true) ∧ Below w.heap.size w w' := by
  have HN := hidden (fun W => new_ok most W h0 h1)
  have hln := hF.1
  have hll := hZ.1
  have HFs := hidden hF.2
  have HZs := hidden hZ.2.1
  have HG := hidden hg
  clear hF hZ hg
  go_enter Tryd.func4, Tryd.ntmps4
  go_wp2_with fail
  refine (HN.out _).mono ?_
  rintro e w1 ⟨b, rfl, hb1, hL, hB⟩
  have HL1 := hidden hL
  have HB1 := hidden hB
  clear hL hB HN
  go_wp2_with fail
  refine (Told.same_nil 0 _).mono ?_
  rintro e w2 ⟨rfl, rfl⟩
  go_wp2_with fail
  have HS0 : Hid (BSt w (w2.alloc (.cells #[.int .i64 most, .int .i64 (-1), .int .i64 (-1), .bool false] 58)) b w2.heap.size most (-1) (-1) false) :=
    hidden ⟨HL1.out.alloc _, heap_alloc_new _ _, inv_start h0 h1, HB1.out.alloc HB1.out.size _, hb1, HB1.out.size⟩
  clear HL1 HB1 hb1 h0 h1
  obtain ⟨rb, hrb⟩ : ∃ rb, w2.heap.size = rb := ⟨_, rfl⟩
  rw [hrb] at HS0
  try rw [hrb]
  clear hrb
  go_loopg [12] 80 (fun g y12 wr => ∃ (k : Nat) (mo nw la : Int) (br : Bool), k + g = 80 ∧ y12 = .int .i64 (k : Int) ∧ Hid (BSt w wr b rb mo nw la br))
  case atStart => exact ⟨0, most, -1, -1, false, by omega, rfl, HS0⟩
  case round =>
    obtain ⟨k, mo0, nw, la, br, hkg, rfl, HS⟩ := hrel
    clear HS0
    by_cases hk : k < ln
    case neg =>
      have hkz : ¬ (k : Int) < (ln : Int) := by omega
      have dk : decide ((k : Int) < (ln : Int)) = false := by simpa using hkz
      go_wp2_with fail
      go_ret
      exact ⟨rfl, HS.out.bel⟩
    case pos =>
    have hkz : (k : Int) < (ln : Int) := by omega
    have dk : decide ((k : Int) < (ln : Int)) = true := by simpa using hkz
    by_cases hk8 : k < 80
    case neg =>
      have hkz8 : ¬ (k : Int) < 80 := by omega
      go_wp2_with fail
      go_ret
      exact ⟨rfl, HS.out.bel⟩
    case pos =>
    have hkz8 : (k : Int) < 80 := by omega
    have hk0 : (0 : Int) ≤ (k : Int) := by omega
    obtain ⟨jb, hjb⟩ : ∃ jb : Bool, decide (k < ll ∧ k % 3 = 0) = jb := ⟨_, rfl⟩
    have HJb := hidden hjb
    clear hjb
    go_upto_region 12 with fail
    go_cut [59] from 51 to 59 (fun c wx => c = .bool jb ∧ wx = wr)
    case first =>
      by_cases q1 : k < ll
      · have q1z : (k : Int) < (ll : Int) := by omega
        obtain ⟨r3, hr3⟩ : ∃ r3 : Nat, k % 3 = r3 := ⟨_, rfl⟩
        have hrem : (k : Int) % 3 = (r3 : Int) := by rw [← hr3]; omega
        have e := hidden (by rw [← HJb.out, hr3]; simp [q1]; by_cases p : r3 = 0 <;> simp [p] : ((r3 : Int) == 0) = jb)
        clear HJb hr3
        go_wp2_with fail
        go_meet
        exact ⟨congrArg Value.bool e.out, rfl⟩
      · have q1z : ¬ (k : Int) < (ll : Int) := by omega
        have e := hidden (by rw [← HJb.out]; simp [q1] : false = jb)
        clear HJb
        go_wp2_with fail
        go_meet
        exact ⟨congrArg Value.bool e.out, rfl⟩
    case rest =>
    obtain ⟨rfl, rfl⟩ := hcut
    go_upto_if 59 with fail
    go_cut [] from 60 to 88 (fun wx => ∃ mo, Hid (BSt w wx b rb mo nw la br))
    case first =>
      cases jb with
      | true =>
        obtain ⟨q1, _⟩ := of_decide_eq_true HJb.out
        have q1z : (k : Int) < (ll : Int) := by omega
        obtain ⟨zb, zo, rfl, hzl, hzc⟩ := HZs.out k q1
        have hz := (HS.out.bel.cell (p := ⟨zb, zo + k, none⟩) hzl).trans hzc
        have HZ0 := hidden hzc
        clear hzc HJb
        by_cases q2 : 0 ≤ Z k
        · have d2 : decide (0 ≤ Z k) = true := by simpa using q2
          by_cases q3 : Z k ≤ 3
          · have d3 : decide (Z k ≤ 3) = true := by simpa using q3
            obtain ⟨r0, r1, r2, r3⟩ := HS.out.ref.cells
            have f0 := HS.out.ref.free 0
            have hzr : ¬ zb = rb := by have := HS.out.hr; omega
            have hrz : ¬ rb = zb := by omega
            clear r1 r2 r3
            go_wp2_with fail
            have HO : Hid (Only [rb] wc (wc.setCell ⟨rb, 0, none⟩ (.int .i64 (Z k)))) := hidden ((Only.refl _ _).setCell (by simp) _)
            refine (limit_s w b rb mo0 mo0 nw la (Z k) br _ q2 q3 (HS.out.lay.only HO.out (by simp; exact HS.out.ne)) (HS.out.ref.setM (Z k)) (HS.out.inv.limit q2 q3) (HS.out.bel.trans (HO.out.below HS.out.bel.size (by simp; exact HS.out.hr))) HS.out.hb HS.out.hr HS.out.ne).mono ?_
            rintro e w7 ⟨rfl, hS7⟩
            have HS7 := hidden hS7
            clear hS7 HS HO r0 f0 hz
            go_wp2_with fail
            refine (Told.same_nil 0 _).mono ?_
            rintro e w8 ⟨rfl, rfl⟩
            go_wp2_with fail
            go_meet
            exact ⟨Z k, HS7⟩
          · have d3 : decide (Z k ≤ 3) = false := by simpa using q3
            go_wp2_with fail
            refine (limit_err b (Z k) _ (by omega)).mono ?_
            rintro e w7 ⟨rfl, rfl⟩
            rw [errv_pos (by decide)]
            go_wp2_with fail
            refine (Told.same_err 1 1 _ (by decide) (by decide) (hg_of HG.out HS.out.bel)).mono ?_
            rintro e w8 ⟨rfl, hb8⟩
            have HS8 := hidden (HS.out.below hb8)
            clear hb8 HS
            go_wp2_with fail
            go_meet
            exact ⟨mo0, HS8⟩
        · have d2 : decide (0 ≤ Z k) = false := by simpa using q2
          go_wp2_with fail
          refine (limit_err b (Z k) _ (by omega)).mono ?_
          rintro e w7 ⟨rfl, rfl⟩
          rw [errv_pos (by decide)]
          go_wp2_with fail
          refine (Told.same_err 1 1 _ (by decide) (by decide) (hg_of HG.out HS.out.bel)).mono ?_
          rintro e w8 ⟨rfl, hb8⟩
          have HS8 := hidden (HS.out.below hb8)
          clear hb8 HS
          go_wp2_with fail
          go_meet
          exact ⟨mo0, HS8⟩
      | false =>
        go_wp2_with fail
        go_meet
        exact ⟨_, HS⟩
    case rest =>
    obtain ⟨mo, HS8⟩ := hcut
    clear HS HJb
    obtain ⟨ib, io, rfl, hil, hit⟩ := HFs.out k hk
    obtain ⟨⟨n, g, s, t, l, q, st, a, m, c⟩, hFk⟩ : ∃ P, F k = P := ⟨_, rfl⟩
    rw [hFk] at hit
    clear hFk
    obtain ⟨i0, i1, i2, i3, i4, i5, i6, i7⟩ := hit
    simp only at i0 i1 i2 i3 i4 i5 i6 i7
    have hold : ∀ W (o : Nat) u, Below w.heap.size w W → w.cell? ⟨ib, o, none⟩ = some u → W.cell? ⟨ib, o, none⟩ = some u := fun W o u hb hc => (hb.cell (p := ⟨ib, o, none⟩) hil).trans hc
    have HOld := hidden hold
    have HI : Hid (w.cell? ⟨ib, io + k * 8, none⟩ = some (.int .i64 n) ∧ w.cell? ⟨ib, io + k * 8 + 1, none⟩ = some (.bool g) ∧ w.cell? ⟨ib, io + k * 8 + 2, none⟩ = some (.int .i64 s) ∧ w.cell? ⟨ib, io + k * 8 + 3, none⟩ = some (.int .i64 t) ∧ w.cell? ⟨ib, io + k * 8 + 4, none⟩ = some (.int .i64 l) ∧ w.cell? ⟨ib, io + k * 8 + 5, none⟩ = some (.int .i64 q) ∧ w.cell? ⟨ib, io + k * 8 + 6, none⟩ = some (.bool st) ∧ w.cell? ⟨ib, io + k * 8 + 7, none⟩ = some (.slice a m c)) := hidden ⟨i0, i1, i2, i3, i4, i5, i6, i7⟩
    have j0 := hold _ _ _ HS8.out.bel i0
    have j1 := hold _ _ _ HS8.out.bel i1
    have j2 := hold _ _ _ HS8.out.bel i2
    have j3 := hold _ _ _ HS8.out.bel i3
    have j4 := hold _ _ _ HS8.out.bel i4
    have j5 := hold _ _ _ HS8.out.bel i5
    have j6 := hold _ _ _ HS8.out.bel i6
    have j7 := hold _ _ _ HS8.out.bel i7
    clear hold i0 i1 i2 i3 i4 i5 i6 i7
    obtain ⟨f, hf⟩ : ∃ f, tkf la n g (fault s t l q m) = f := ⟨_, rfl⟩
    obtain ⟨x, hx⟩ : ∃ x, tkx mo nw la n br g (fault s t l q m) l st = x := ⟨_, rfl⟩
    obtain ⟨nw2, hnw⟩ : ∃ x, tkN mo nw la n br g (fault s t l q m) l st = x := ⟨_, rfl⟩
    obtain ⟨la2, hla⟩ : ∃ x, tkL la n g (fault s t l q m) = x := ⟨_, rfl⟩
    obtain ⟨br2, hbr⟩ : ∃ x, tkB mo nw la n br g (fault s t l q m) l st = x := ⟨_, rfl⟩
    have hf100 : f ≤ 100 := by
      rw [← hf]
      refine tkf_le ?_
      rcases fault_cases s t l q m with e | e | e <;> omega
    have HR : Hid (∀ W, BSt w W b rb mo nw la br → Calls Tryd.prog 17 #[.pointer (some ⟨rb, 0, none⟩), .agg #[.int .i64 n, .bool g, .int .i64 s, .int .i64 t, .int .i64 l, .int .i64 q, .bool st, .slice a m c]] W fun e w' => e = .returned (.tuple #[.bool x, .int .i64 (f : Int)]) ∧ HSt w w' b rb mo nw la br nw2 la2 br2) := by
      refine hidden (fun W hW => ?_)
      refine (rtake_calls rb mo nw la n br g s t l q st a m c W hW.ref hW.inv).mono ?_
      rintro e w' ⟨rfl, h1, h2⟩
      rw [hnw, hla, hbr] at h1
      have hi := inv_take (n := n) (g := g) (p := fault s t l q m) (l := l) (st := st) hW.inv (fun e => by obtain ⟨_, _, z, _, _, _, hz, _, _, _, h3, _⟩ := fault_zero e; omega)
      rw [hnw, hla, hbr] at hi
      exact ⟨by rw [hx, hf], hW.lay.only h2 (by simp; exact hW.ne), h1, hi, hW.bel.trans (h2.below hW.bel.size (by simp; exact hW.hr)), hW.hb, hW.hr, hW.ne⟩
    have HT : Hid (∀ W, HSt w W b rb mo nw la br nw2 la2 br2 → Calls Tryd.prog 18 #[.pointer (some ⟨b, 0, none⟩), .agg #[.int .i64 n, .bool g, .int .i64 s, .int .i64 t, .int .i64 l, .int .i64 q, .bool st, .slice a m c]] W fun e w' => e = .returned (.tuple #[.bool x, errv f]) ∧ BSt w w' b rb mo nw2 la2 br2) := by
      refine hidden (fun W hW => ?_)
      refine (take_calls b mo nw la n br g s t l q st a m c W hW.lay).mono ?_
      rintro e w' ⟨rfl, h1, h2⟩
      rw [hnw, hla, hbr] at h1
      exact ⟨by rw [hx, hf], h1, hW.ref.only h2 (by simp; exact fun e => hW.ne e.symm), hW.inv, hW.bel.trans (h2.below hW.bel.size (by simp; exact hW.hb)), hW.hb, hW.hr⟩
    clear hf hx hnw hla hbr
    go_wp2_with fail
    refine (HR.out _ HS8.out).mono ?_
    rintro e w9 ⟨rfl, hS9⟩
    have HS9 := hidden hS9
    clear hS9 HS8 HR j0 j1 j2 j3 j4 j5 j6 j7
    have j0 := HOld.out _ _ _ HS9.out.bel HI.out.1
    have j1 := HOld.out _ _ _ HS9.out.bel HI.out.2.1
    have j2 := HOld.out _ _ _ HS9.out.bel HI.out.2.2.1
    have j3 := HOld.out _ _ _ HS9.out.bel HI.out.2.2.2.1
    have j4 := HOld.out _ _ _ HS9.out.bel HI.out.2.2.2.2.1
    have j5 := HOld.out _ _ _ HS9.out.bel HI.out.2.2.2.2.2.1
    have j6 := HOld.out _ _ _ HS9.out.bel HI.out.2.2.2.2.2.2.1
    have j7 := HOld.out _ _ _ HS9.out.bel HI.out.2.2.2.2.2.2.2
    go_wp2_with fail
    refine (HT.out _ HS9.out).mono ?_
    rintro e wa ⟨rfl, hSa⟩
    have HSa := hidden hSa
    clear hSa HS9 HT j0 j1 j2 j3 j4 j5 j6 j7 HI HOld
    go_wp2_with fail
    refine (told_f f _ hf100 (hg_of HG.out HSa.out.bel)).mono ?_
    rintro e we ⟨rfl, hbe⟩
    have HSe := hidden (HSa.out.below hbe)
    clear hbe HSa
    obtain ⟨r0, r1, r2, r3⟩ := HSe.out.ref.cells
    clear r0 r2 r3
    obtain ⟨wv, hwv⟩ : ∃ wv, wants mo nw2 br2 = wv := ⟨_, rfl⟩
    have HW : Hid (∀ W, LayerAt W b mo nw2 la2 br2 → Calls Tryd.prog 20 #[.pointer (some ⟨b, 0, none⟩)] W fun e w' => e = .returned (.bool wv) ∧ ∃ k, w' = W.drewN k) := hidden (fun W hW => by have := wants_calls b mo nw2 la2 br2 W hW; rw [hwv] at this; exact this)
    have HRW : Hid (∀ W, RefAt W rb mo nw2 la2 br2 → Calls Tryd.prog 21 #[.pointer (some ⟨rb, 0, none⟩)] W fun e w' => e = .returned (.bool wv) ∧ ∃ k, w' = W.drewN k) := hidden (fun W hW => by have := rwants_calls rb mo nw2 la2 br2 W hW; rw [hwv] at this; exact this)
    have HNw := hidden (fun W hW => now_calls b mo nw2 la2 br2 W hW)
    clear hwv
    have dx : (x != x) = false := by simp
    have dn : (nw2 != nw2) = false := by simp
    have dw : (wv != wv) = false := by simp
    go_wp2_with fail
    go_quiet (first | (go_at_call 19; exact Calls.quiet_of_same (HNw.out _ (by exact HSe.out.lay))) | (go_at_call 20; exact Calls.quiet_of (HW.out _ (by exact HSe.out.lay))) | (go_at_call 21; exact Calls.quiet_of (HRW.out _ (by exact HSe.out.ref))))
    go_wp2_with fail
    go_roundg (80 - (k + 1))
    case measure => omega
    case rel => exact ⟨k + 1, mo, nw2, la2, br2, by omega, by go_num, hidden (HSe.out.below (below_drewN (Below.refl _ _) _))⟩
theorem walk (most : Int) (va vb : Option Addr) (ln cn ll cl : Nat) (F : Nat → Open.It) (Z : Nat → Int) (w : World) (hg : w.cell? ⟨0, 0, none⟩ = some (.iface 109 (.agg #[.pointer (some ⟨1, 26, none⟩)]))) (hF : Open.Items w va ln F) (hZ : Open.Nums w vb ll Z) :
    Calls Tryd.prog 4 #[.int .i64 most, .slice va ln cn, .slice vb ll cl] w fun e w' => e = .returned (.bool true) ∧ Below w.heap.size w w' := by
  by_cases h0 : most < 0
  · exact walk_neg most _ _ w hg h0
  by_cases h1 : 3 < most
  · exact walk_big most _ _ w hg h1
  · exact walk_ok most va vb ln cn ll cl F Z w hg (by omega) (by omega) hF hZ
end Go.Proofs.YtaopgjonhgddoaeDoor.LPlays
