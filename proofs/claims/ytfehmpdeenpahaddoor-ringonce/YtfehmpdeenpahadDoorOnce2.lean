/-
  The walk of the Go function RingOnce, of a packet that is kept: it returns true. Its condition: package errors' variable errorType is as its text lays it.
-/
import Derived.Test.YtfehmpdeenpahadDoorOnce
import Derived.Deep.DrawnRows
namespace Go.Proofs.YtfehmpdeenpahadDoor.Once
open Go.ChangeShapes Go.WideShapes Go.ChangeAt Go.RowKit Go.Proofs.YtfehmpdeenpahadDoor.PM Go.Proofs.YtfehmpdeenpahadDoor.Mem Go.Proofs.YtfehmpdeenpahadDoor.Pack Go.Proofs.YtfehmpdeenpahadDoor.RM Go.Proofs.YtfehmpdeenpahadDoor.Ring
set_option linter.unusedVariables false

set_option maxHeartbeats 4000000 in
set_option maxRecDepth 100000 in
theorem walk_ok (n y : Int) (s t l q : Int) (st : Bool) (a : Option Addr) (m cap : Nat) (L : List Nat) (s2 t2 l2 q2 : Int) (st2 : Bool) (a2 : Option Addr) (m2 cap2 : Nat) (L2 : List Nat) (w : World) (hg : w.cell? ⟨0, 0, none⟩ = some (.iface 78 (.agg #[.pointer (some ⟨1, 27, none⟩)]))) (h1 : 1 ≤ n) (h2 : n ≤ 64)
    (hA : Arg w a m L) (hN : a = none → m = 0 ∧ cap = 0) (hA2 : Arg w a2 m2 L2) (hN2 : a2 = none → m2 = 0 ∧ cap2 = 0) (h0 : 0 ≤ y) (hy : y ≤ 1099511627776) (hf : fault s t l q m = 0) :
    Calls Tryd.prog 3 #[.int .i64 n, .int .i64 y, .agg #[.int .i64 s, .int .i64 t, .int .i64 l, .int .i64 q, .bool st, .slice a m cap], .agg #[.int .i64 s2, .int .i64 t2, .int .i64 l2, .int .i64 q2, .bool st2, .slice a2 m2 cap2]] w fun e w' => e = .returned (.bool true) ∧ Below w.heap.size w w' := by
  have hwf : (Lit.int .i64 y).wf = true := wf_of (by omega) (by omega)
  have HE := hidden (fun w => new_ok n w h1 h2)
  have hb : ∀ O1 O2, Below w.heap.size w ((w.alloc O1).alloc O2) := fun O1 O2 => ((Below.refl _ _).alloc (Nat.le_refl _) _).alloc (by simp) _
  have HB := hidden hb
  obtain ⟨M, hM⟩ : ∃ M : Its, M = [(y, (⟨s, t, l, q, st, L, .slice a m cap⟩ : Pk))] := ⟨_, rfl⟩
  have hI : RM.Inv n y M := by rw [hM]; exact inv_one _ h1 h2 h0 hy
  obtain ⟨f2, hf2⟩ : ∃ f2, fault s2 t2 l2 q2 m2 = f2 := ⟨_, rfl⟩
  -- the first
  have P1 : Hid (∀ b mb W, RingAt W b mb n (-1) [] → Arg W a m L → Calls Tryd.prog 6 #[.pointer (some ⟨b, 0, none⟩), .int .i64 y, .agg #[.int .i64 s, .int .i64 t, .int .i64 l, .int .i64 q, .bool st, .slice a m cap]] W fun e w' => e = .returned (.tuple #[.bool true, .nilIface]) ∧ RingAt w' b mb n y M ∧ Only [b, mb] W w') := by
    refine hidden ?_
    intro b mb W hR hA
    refine (put_calls b mb n (-1) y s t l q st a m cap L [] W hR (inv_start h1 h2) hA hN).mono ?_
    rintro e w' ⟨rfl, hR', ho⟩
    obtain ⟨e1, e2, e3, e4⟩ := one_T (f := fault s t l q m) h1 h0 hy hf
    rw [e3, e4] at hR'
    exact ⟨by rw [e1, e2]; rfl, by rw [hM]; exact hR', ho⟩
  -- the second, of the same number
  have P2 : Hid (∀ b mb W, RingAt W b mb n y M → Arg W a2 m2 L2 → Calls Tryd.prog 6 #[.pointer (some ⟨b, 0, none⟩), .int .i64 y, .agg #[.int .i64 s2, .int .i64 t2, .int .i64 l2, .int .i64 q2, .bool st2, .slice a2 m2 cap2]] W fun e w' => e = .returned (.tuple #[.bool false, errv f2]) ∧ RingAt w' b mb n y M ∧ Only [b, mb] W w') := by
    refine hidden ?_
    intro b mb W hR hA
    refine (put_calls b mb n y y s2 t2 l2 q2 st2 a2 m2 cap2 L2 M W hR hI hA hN2).mono ?_
    rintro e w' ⟨rfl, hR', ho⟩
    rw [hf2] at hR' ⊢
    obtain ⟨e1, e2⟩ := two_T (f := f2) (⟨s, t, l, q, st, L, .slice a m cap⟩ : Pk) h1 h0 hy
    rw [← hM] at e2
    unfold pT pM at hR'
    rw [e2] at hR'
    exact ⟨by rw [e1, e2], hR', ho⟩
  have G1 : Hid (∀ b mb W, RingAt W b mb n y M → Calls Tryd.prog 8 #[.pointer (some ⟨b, 0, none⟩), .int .i64 y] W fun e w' => ∃ a' m' c', e = .returned (.tuple #[.agg #[.int .i64 s, .int .i64 t, .int .i64 l, .int .i64 q, .bool st, .slice a' m' c'], .nilIface]) ∧ Arg w' a' m' L ∧ Below W.heap.size W w') := by
    refine hidden ?_
    intro b mb W hR
    refine (get_calls b mb n y y M W hR hwf).mono ?_
    rintro e w' ⟨a', m', c', rfl, hA, hb⟩
    obtain ⟨g1, g2⟩ := got_one y (⟨s, t, l, q, st, L, .slice a m cap⟩ : Pk)
    rw [← hM] at g1 g2
    rw [g1] at hA ⊢
    exact ⟨a', m', c', by rw [g2]; rfl, hA, hb⟩
  have HC : Hid (∀ b mb W, (W.cell? ⟨w.heap.size + 1, 0, none⟩ = some (.int .i64 s2) ∧ W.cell? ⟨w.heap.size + 1, 1, none⟩ = some (.int .i64 t2) ∧ W.cell? ⟨w.heap.size + 1, 2, none⟩ = some (.int .i64 l2) ∧ W.cell? ⟨w.heap.size + 1, 3, none⟩ = some (.int .i64 q2) ∧ W.cell? ⟨w.heap.size + 1, 4, none⟩ = some (.bool st2) ∧ W.cell? ⟨w.heap.size + 1, 5, none⟩ = some (.slice a2 m2 cap2) ∧ Hid (OSt w W b mb n y M s t l q st (.slice a m cap) s2 t2 l2 q2 st2 (.slice a2 m2 cap2))) → Calls Tryd.prog 7 #[.agg #[.int .i64 s2, .int .i64 t2, .int .i64 l2, .int .i64 q2, .bool st2, .slice a2 m2 cap2]] W fun e w' => e = .returned (errv f2) ∧ (w'.cell? ⟨w.heap.size + 1, 0, none⟩ = some (.int .i64 s2) ∧ w'.cell? ⟨w.heap.size + 1, 1, none⟩ = some (.int .i64 t2) ∧ w'.cell? ⟨w.heap.size + 1, 2, none⟩ = some (.int .i64 l2) ∧ w'.cell? ⟨w.heap.size + 1, 3, none⟩ = some (.int .i64 q2) ∧ w'.cell? ⟨w.heap.size + 1, 4, none⟩ = some (.bool st2) ∧ w'.cell? ⟨w.heap.size + 1, 5, none⟩ = some (.slice a2 m2 cap2) ∧ Hid (OSt w w' b mb n y M s t l q st (.slice a m cap) s2 t2 l2 q2 st2 (.slice a2 m2 cap2)))) := by
    refine hidden ?_
    rintro b mb W ⟨k0, k1, k2, k3, k4, k5, hO⟩
    refine (check_calls s2 t2 l2 q2 st2 a2 m2 cap2 W).mono ?_
    rintro e w' ⟨rfl, hb⟩
    have hO' := ost_below hO.out hb
    obtain ⟨c0, c1, c2, c3, c4, c5⟩ := hO'.2.2.1.cells
    exact ⟨by rw [hf2], c0, c1, c2, c3, c4, c5, hO'⟩
  have HLen : Hid (∀ b mb W, (W.cell? ⟨w.heap.size + 1, 0, none⟩ = some (.int .i64 s2) ∧ W.cell? ⟨w.heap.size + 1, 1, none⟩ = some (.int .i64 t2) ∧ W.cell? ⟨w.heap.size + 1, 2, none⟩ = some (.int .i64 l2) ∧ W.cell? ⟨w.heap.size + 1, 3, none⟩ = some (.int .i64 q2) ∧ W.cell? ⟨w.heap.size + 1, 4, none⟩ = some (.bool st2) ∧ W.cell? ⟨w.heap.size + 1, 5, none⟩ = some (.slice a2 m2 cap2) ∧ Hid (OSt w W b mb n y M s t l q st (.slice a m cap) s2 t2 l2 q2 st2 (.slice a2 m2 cap2))) → Calls Tryd.prog 10 #[.pointer (some ⟨b, 0, none⟩)] W fun e w' => e = .returned (.int .i64 1) ∧ (w'.cell? ⟨w.heap.size + 1, 0, none⟩ = some (.int .i64 s2) ∧ w'.cell? ⟨w.heap.size + 1, 1, none⟩ = some (.int .i64 t2) ∧ w'.cell? ⟨w.heap.size + 1, 2, none⟩ = some (.int .i64 l2) ∧ w'.cell? ⟨w.heap.size + 1, 3, none⟩ = some (.int .i64 q2) ∧ w'.cell? ⟨w.heap.size + 1, 4, none⟩ = some (.bool st2) ∧ w'.cell? ⟨w.heap.size + 1, 5, none⟩ = some (.slice a2 m2 cap2) ∧ Hid (OSt w w' b mb n y M s t l q st (.slice a m cap) s2 t2 l2 q2 st2 (.slice a2 m2 cap2)))) := by
    refine hidden ?_
    rintro b mb W ⟨k0, k1, k2, k3, k4, k5, hO⟩
    refine (len_calls b mb n y M W hO.out.2.2.2.2.2 hI).mono ?_
    rintro e w' ⟨rfl, rfl⟩
    exact ⟨by rw [hM]; rfl, k0, k1, k2, k3, k4, k5, hO⟩
  have HLow : Hid (∀ b mb W, (W.cell? ⟨w.heap.size + 1, 0, none⟩ = some (.int .i64 s2) ∧ W.cell? ⟨w.heap.size + 1, 1, none⟩ = some (.int .i64 t2) ∧ W.cell? ⟨w.heap.size + 1, 2, none⟩ = some (.int .i64 l2) ∧ W.cell? ⟨w.heap.size + 1, 3, none⟩ = some (.int .i64 q2) ∧ W.cell? ⟨w.heap.size + 1, 4, none⟩ = some (.bool st2) ∧ W.cell? ⟨w.heap.size + 1, 5, none⟩ = some (.slice a2 m2 cap2) ∧ Hid (OSt w W b mb n y M s t l q st (.slice a m cap) s2 t2 l2 q2 st2 (.slice a2 m2 cap2))) → Calls Tryd.prog 11 #[.pointer (some ⟨b, 0, none⟩)] W fun e w' => e = .returned (.int .i64 y) ∧ (w'.cell? ⟨w.heap.size + 1, 0, none⟩ = some (.int .i64 s2) ∧ w'.cell? ⟨w.heap.size + 1, 1, none⟩ = some (.int .i64 t2) ∧ w'.cell? ⟨w.heap.size + 1, 2, none⟩ = some (.int .i64 l2) ∧ w'.cell? ⟨w.heap.size + 1, 3, none⟩ = some (.int .i64 q2) ∧ w'.cell? ⟨w.heap.size + 1, 4, none⟩ = some (.bool st2) ∧ w'.cell? ⟨w.heap.size + 1, 5, none⟩ = some (.slice a2 m2 cap2) ∧ Hid (OSt w w' b mb n y M s t l q st (.slice a m cap) s2 t2 l2 q2 st2 (.slice a2 m2 cap2)))) := by
    refine hidden ?_
    rintro b mb W ⟨k0, k1, k2, k3, k4, k5, hO⟩
    refine (low_calls b mb n y M W hO.out.2.2.2.2.2 hI).mono ?_
    rintro e w' ⟨rfl, hb⟩
    have hO' := ost_below hO.out hb
    obtain ⟨c0, c1, c2, c3, c4, c5⟩ := hO'.2.2.1.cells
    exact ⟨by rw [hM, low_one], c0, c1, c2, c3, c4, c5, hO'⟩
  have HTop : Hid (∀ b mb W, (W.cell? ⟨w.heap.size + 1, 0, none⟩ = some (.int .i64 s2) ∧ W.cell? ⟨w.heap.size + 1, 1, none⟩ = some (.int .i64 t2) ∧ W.cell? ⟨w.heap.size + 1, 2, none⟩ = some (.int .i64 l2) ∧ W.cell? ⟨w.heap.size + 1, 3, none⟩ = some (.int .i64 q2) ∧ W.cell? ⟨w.heap.size + 1, 4, none⟩ = some (.bool st2) ∧ W.cell? ⟨w.heap.size + 1, 5, none⟩ = some (.slice a2 m2 cap2) ∧ Hid (OSt w W b mb n y M s t l q st (.slice a m cap) s2 t2 l2 q2 st2 (.slice a2 m2 cap2))) → Calls Tryd.prog 12 #[.pointer (some ⟨b, 0, none⟩)] W fun e w' => e = .returned (.int .i64 y) ∧ (w'.cell? ⟨w.heap.size + 1, 0, none⟩ = some (.int .i64 s2) ∧ w'.cell? ⟨w.heap.size + 1, 1, none⟩ = some (.int .i64 t2) ∧ w'.cell? ⟨w.heap.size + 1, 2, none⟩ = some (.int .i64 l2) ∧ w'.cell? ⟨w.heap.size + 1, 3, none⟩ = some (.int .i64 q2) ∧ w'.cell? ⟨w.heap.size + 1, 4, none⟩ = some (.bool st2) ∧ w'.cell? ⟨w.heap.size + 1, 5, none⟩ = some (.slice a2 m2 cap2) ∧ Hid (OSt w w' b mb n y M s t l q st (.slice a m cap) s2 t2 l2 q2 st2 (.slice a2 m2 cap2)))) := by
    refine hidden ?_
    rintro b mb W ⟨k0, k1, k2, k3, k4, k5, hO⟩
    refine (top_calls b y W hO.out.2.2.2.2.2.cells.2.1).mono ?_
    rintro e w' ⟨rfl, rfl⟩
    exact ⟨rfl, k0, k1, k2, k3, k4, k5, hO⟩
  -- two more, further below
  have P3 : Hid (n ≤ y → ∀ b mb W, RingAt W b mb n y M → Arg W a m L → Calls Tryd.prog 6 #[.pointer (some ⟨b, 0, none⟩), .int .i64 (y - n), .agg #[.int .i64 s, .int .i64 t, .int .i64 l, .int .i64 q, .bool st, .slice a m cap]] W fun e w' => e = .returned (.tuple #[.bool false, .iface 51 (.int .i64 6)]) ∧ RingAt w' b mb n y M ∧ Only [b, mb] W w') := by
    refine hidden ?_
    intro hny b mb W hR hA
    refine (put_calls b mb n y (y - n) s t l q st a m cap L M W hR hI hA hN).mono ?_
    rintro e w' ⟨rfl, hR', ho⟩
    obtain ⟨e1, e2⟩ := three_T (f := fault s t l q m) M hny hy h1 hf
    unfold pT pM at hR'
    rw [e2] at hR'
    exact ⟨by rw [e1, e2]; rfl, hR', ho⟩
  have P4 : Hid (n ≤ y → ∀ b mb W, RingAt W b mb n y M → Arg W a m L → Calls Tryd.prog 6 #[.pointer (some ⟨b, 0, none⟩), .int .i64 (y - n + 1), .agg #[.int .i64 s, .int .i64 t, .int .i64 l, .int .i64 q, .bool st, .slice a m cap]] W fun e w' => e = .returned (.tuple #[.bool (decide (1 < n)), .nilIface]) ∧ Only [b, mb] W w') := by
    refine hidden ?_
    intro hny b mb W hR hA
    refine (put_calls b mb n y (y - n + 1) s t l q st a m cap L M W hR hI hA hN).mono ?_
    rintro e w' ⟨rfl, hR', ho⟩
    obtain ⟨e1, e2⟩ := four_T (f := fault s t l q m) (⟨s, t, l, q, st, L, .slice a m cap⟩ : Pk) hny hy h1 hf
    rw [← hM] at e2
    exact ⟨by rw [e1, e2]; rfl, ho⟩
  have HA := hidden hA
  have HA2 := hidden hA2
  have HG := hidden hg
  have hce := cmp_eq f2
  have hge := grd_eq f2
  have HSm := hidden (fun a' m' c' W (h : Arg W a' m' L) (h' : Arg W a m L) => same_pk s t l q st a' a m' m c' cap L W h h')
  clear hA hA2 hg hb hM hI hf hf2 hN hN2 hwf
  go_enter Tryd.func3, Tryd.ntmps3
  go_wp2_with fail
  refine (HE.out _).mono ?_
  rintro e w1 ⟨b, mb, rfl, hb1, hb2, hR, hbl⟩
  have HS1 : Hid (OSt w w1 b mb n (-1) [] s t l q st (.slice a m cap) s2 t2 l2 q2 st2 (.slice a2 m2 cap2)) :=
    ⟨(HB.out _ _).trans (hbl.mono (by simp; omega)), ((Box.new w s t l q st (.slice a m cap)).alloc _).below hbl (by simp; omega), (by have := Box.new (w.alloc (.cells #[.int .i64 s, .int .i64 t, .int .i64 l, .int .i64 q, .bool st, .slice a m cap] 24)) s2 t2 l2 q2 st2 (.slice a2 m2 cap2); simp only [World.size_alloc] at this; exact this.below hbl (by simp)), by simpa using hb1, by simpa using hb2, hR⟩
  clear hb1 hb2 hR hbl HB HE
  obtain ⟨c0, c1, c2, c3, c4, c5⟩ := HS1.out.2.1.cells
  go_wp2_with fail
  refine (P1.out b mb w1 HS1.out.2.2.2.2.2 (HA.out.below HS1.out.1)).mono ?_
  rintro e w2 ⟨rfl, hR, ho⟩
  have HS2 := hidden (ost_put HS1.out hR ho)
  clear hR ho HS1 P1 c0 c1 c2 c3 c4 c5
  obtain ⟨c0, c1, c2, c3, c4, c5⟩ := HS2.out.2.2.1.cells
  go_wp2_with fail
  refine (P2.out b mb w2 HS2.out.2.2.2.2.2 (HA2.out.below HS2.out.1)).mono ?_
  rintro e w3 ⟨rfl, hR, ho⟩
  have HS3 := hidden (ost_put HS2.out hR ho)
  clear hR ho HS2 P2 c0 c1 c2 c3 c4 c5
  go_wp2_with fail
  refine (G1.out b mb w3 HS3.out.2.2.2.2.2).mono ?_
  rintro e w4 ⟨a', m', c', rfl, hA', hb4⟩
  have HS4 := hidden (ost_below HS3.out hb4)
  have HA4 := hidden hA'
  clear hA' hb4 HS3 G1
  obtain ⟨k0, k1, k2, k3, k4, k5⟩ := HS4.out.2.1.cells
  have d0 := fun O => cell_alloc k0 O
  have d1 := fun O => cell_alloc k1 O
  have d2 := fun O => cell_alloc k2 O
  have d3 := fun O => cell_alloc k3 O
  have d4 := fun O => cell_alloc k4 O
  have d5 := fun O => cell_alloc k5 O
  clear k0 k1 k2 k3 k4 k5
  go_wp2_with fail
  refine (HSm.out a' m' c' _ (HA4.out.below ((Below.refl _ _).alloc (Nat.le_refl _) _)) ((HA.out.below HS4.out.1).below ((Below.refl _ _).alloc (Nat.le_refl _) _))).mono ?_
  rintro e w5 ⟨rfl, hb5⟩
  have HS5 := hidden (ost_below HS4.out (((Below.refl _ _).alloc (Nat.le_refl _) _).trans (hb5.mono (by simp))))
  clear hb5 HS4 HA4 HSm d0 d1 d2 d3 d4 d5
  go_wp2_with fail
  have HC' := hidden (fun W => HC.out b mb W)
  have HLen' := hidden (fun W => HLen.out b mb W)
  have HLow' := hidden (fun W => HLow.out b mb W)
  have HTop' := hidden (fun W => HTop.out b mb W)
  have hS0 : w5.drew.cell? ⟨w.heap.size + 1, 0, none⟩ = some (.int .i64 s2) ∧ w5.drew.cell? ⟨w.heap.size + 1, 1, none⟩ = some (.int .i64 t2) ∧ w5.drew.cell? ⟨w.heap.size + 1, 2, none⟩ = some (.int .i64 l2) ∧ w5.drew.cell? ⟨w.heap.size + 1, 3, none⟩ = some (.int .i64 q2) ∧ w5.drew.cell? ⟨w.heap.size + 1, 4, none⟩ = some (.bool st2) ∧ w5.drew.cell? ⟨w.heap.size + 1, 5, none⟩ = some (.slice a2 m2 cap2) ∧ Hid (OSt w w5.drew b mb n y M s t l q st (.slice a m cap) s2 t2 l2 q2 st2 (.slice a2 m2 cap2)) := by
    obtain ⟨c0, c1, c2, c3, c4, c5⟩ := HS5.out.2.2.1.cells
    exact ⟨c0, c1, c2, c3, c4, c5, ost_below HS5.out ((Below.refl _ _).drew)⟩
  clear HC HLen HLow HTop HS5
  go_region_held3 (fun w' => w'.cell? ⟨w.heap.size + 1, 0, none⟩ = some (.int .i64 s2) ∧ w'.cell? ⟨w.heap.size + 1, 1, none⟩ = some (.int .i64 t2) ∧ w'.cell? ⟨w.heap.size + 1, 2, none⟩ = some (.int .i64 l2) ∧ w'.cell? ⟨w.heap.size + 1, 3, none⟩ = some (.int .i64 q2) ∧ w'.cell? ⟨w.heap.size + 1, 4, none⟩ = some (.bool st2) ∧ w'.cell? ⟨w.heap.size + 1, 5, none⟩ = some (.slice a2 m2 cap2) ∧ Hid (OSt w w' b mb n y M s t l q st (.slice a m cap) s2 t2 l2 q2 st2 (.slice a2 m2 cap2))) (with_reducible assumption) (first | (go_at_call 7; refine (HC'.out _ (by with_reducible assumption)).mono ?_; rintro e w6 ⟨rfl, hS6⟩) | (go_at_call 10; refine (HLen'.out _ (by with_reducible assumption)).mono ?_; rintro e w7 ⟨rfl, hS7⟩) | (go_at_call 11; refine (HLow'.out _ (by with_reducible assumption)).mono ?_; rintro e w8 ⟨rfl, hS8⟩) | (go_at_call 12; refine (HTop'.out _ (by with_reducible assumption)).mono ?_; rintro e w9 ⟨rfl, hS9⟩))
  have HS9 := hS9.2.2.2.2.2.2
  clear hS9 hS8 hS7 hS6 hS0 HC' HLen' HLow' HTop'
  have h0s : 0 < w.heap.size := World.block_lt_of_cell? w ⟨0, 0, none⟩ HG.out
  by_cases hyn : y < n
  · go_wp2_with fail
    go_ret
    exact ⟨rfl, HS9.out.1⟩
  · obtain ⟨c0, c1, c2, c3, c4, c5⟩ := HS9.out.2.1.cells
    go_wp2_with fail
    refine (P3.out (by omega) b mb w9 HS9.out.2.2.2.2.2 (HA.out.below HS9.out.1)).mono ?_
    rintro e w10 ⟨rfl, hR, ho⟩
    have HS10 := hidden (ost_put HS9.out hR ho)
    clear hR ho HS9 c0 c1 c2 c3 c4 c5
    obtain ⟨c0, c1, c2, c3, c4, c5⟩ := HS10.out.2.1.cells
    go_wp2_with fail
    refine (P4.out (by omega) b mb w10 HS10.out.2.2.2.2.2 (HA.out.below HS10.out.1)).mono ?_
    rintro e w11 ⟨rfl, ho⟩
    have HB11 : Hid (Below w.heap.size w w11) := HS10.out.1.trans (ho.below HS10.out.1.size (by have := HS10.out.2.2.2; simp; omega))
    clear ho HS10 c0 c1 c2 c3 c4 c5
    go_wp2_with fail
    refine (Told.same_err 6 6 w11 (by decide) (by decide) ((HB11.out.cell (p := ⟨0, 0, none⟩) h0s).trans HG.out)).mono ?_
    rintro e w12 ⟨rfl, hb12⟩
    go_wp2_with fail
    go_ret
    exact ⟨by simp, HB11.out.trans (hb12.mono HB11.out.size)⟩

theorem walk (n y : Int) (s t l q : Int) (st : Bool) (a : Option Addr) (m cap : Nat) (L : List Nat) (s2 t2 l2 q2 : Int) (st2 : Bool) (a2 : Option Addr) (m2 cap2 : Nat) (L2 : List Nat) (w : World) (hg : w.cell? ⟨0, 0, none⟩ = some (.iface 78 (.agg #[.pointer (some ⟨1, 27, none⟩)])))
    (hA : Arg w a m L) (hN : a = none → m = 0 ∧ cap = 0) (hA2 : Arg w a2 m2 L2) (hN2 : a2 = none → m2 = 0 ∧ cap2 = 0) :
    Calls Tryd.prog 3 #[.int .i64 n, .int .i64 y, .agg #[.int .i64 s, .int .i64 t, .int .i64 l, .int .i64 q, .bool st, .slice a m cap], .agg #[.int .i64 s2, .int .i64 t2, .int .i64 l2, .int .i64 q2, .bool st2, .slice a2 m2 cap2]] w fun e w' => e = .returned (.bool true) ∧ Below w.heap.size w w' := by
  by_cases hn : n < 1 ∨ 64 < n
  · exact walk_err n y s t l q st _ s2 t2 l2 q2 st2 _ w hn
  · by_cases hb : y < 0 ∨ 1099511627776 < y ∨ fault s t l q m ≠ 0
    · exact walk_bad n y s t l q st a m cap L s2 t2 l2 q2 st2 _ w (by omega) (by omega) hA hN hb
    · exact walk_ok n y s t l q st a m cap L s2 t2 l2 q2 st2 a2 m2 cap2 L2 w hg (by omega) (by omega) hA hN hA2 hN2 (by omega) (by omega) (by omega)
end Go.Proofs.YtfehmpdeenpahadDoor.Once
