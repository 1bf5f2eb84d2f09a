/-
  What Get of package ring returns. It changes nothing that was there. Its condition: the ring keeps packets that a ring may keep.
-/
import Derived.Test.YtpiamlgmadnepaaGreatRingB
namespace Go.Proofs.YtpiamlgmadnepaaGreat.Ring
open Go.ChangeShapes Go.WideShapes Go.ChangeAt Go.RowKit Go.Maps Go.Proofs.YtpiamlgmadnepaaGreat.PM Go.Proofs.YtpiamlgmadnepaaGreat.Mem Go.Proofs.YtpiamlgmadnepaaGreat.Pack Go.Proofs.YtpiamlgmadnepaaGreat.RM
set_option linter.unusedVariables false

set_option maxHeartbeats 1000000 in
set_option maxRecDepth 100000 in
theorem get_none (b mb : Nat) (n T y : Int) (M : Its) (w : World) (h : RingAt w b mb n T M) (hn : has M y = false) (hw : (Lit.int .i64 y).wf = true) :
    Calls Tryz.prog 186 #[.pointer (some ⟨b, 0, none⟩), .int .i64 y] w fun e w' => e = .returned (.tuple #[.agg #[.int .i64 0, .int .i64 0, .int .i64 0, .int .i64 0, .bool false, .slice none 0 0], errv 5]) ∧ Below w.heap.size w w' := by
  have hR : ∀ O, RingAt (w.alloc O) b mb n T M := fun O => h.below ((Below.refl _ _).alloc (Nat.le_refl _) O)
  have hl := fun O => look_none (hR O) hn hw
  have cc := fun O => (hR O).cells
  obtain ⟨c0, c1, c2⟩ := cc (.cells #[.int .i64 0, .int .i64 0, .int .i64 0, .int .i64 0, .bool false, .slice none 0 0] 38)
  clear cc hR h hn
  go_enter Tryz.func186, Tryz.ntmps186
  go_wp2_with fail
  refine bodyPost_ret (res_pk (g := w.heap.size) rfl rfl ((Box.new w 0 0 0 0 false (.slice none 0 0)).alloc _)) rfl ?_
  exact ⟨rfl, ((Below.refl _ _).alloc (Nat.le_refl _) _).alloc (by simp) _⟩

set_option maxHeartbeats 1000000 in
set_option maxRecDepth 100000 in
theorem get_has (b mb : Nat) (n T : Int) (M : Its) (w : World) (h : RingAt w b mb n T M) (i : Int × Pk) (hi : i ∈ M) (hw : (Lit.int .i64 i.1).wf = true) :
    Calls Tryz.prog 186 #[.pointer (some ⟨b, 0, none⟩), .int .i64 i.1] w fun e w' => ∃ a m c, e = .returned (.tuple #[.agg #[.int .i64 i.2.s, .int .i64 i.2.t, .int .i64 i.2.l, .int .i64 i.2.q, .bool i.2.st, .slice a m c], .nilIface]) ∧ Arg w' a m i.2.L ∧ Below w.heap.size w w' := by
  have hR : RingAt (w.alloc (.cells #[.int .i64 0, .int .i64 0, .int .i64 0, .int .i64 0, .bool false, .slice none 0 0] 38)) b mb n T M := h.below ((Below.refl _ _).alloc (Nat.le_refl _) _)
  obtain ⟨a, m, c, hl, ho, hb, hm⟩ := look_has hR hi hw
  obtain ⟨c0, c1, c2⟩ := hR.cells
  have HO := hidden ho
  have HL := hidden hb
  clear hR h hi ho hb
  generalize i.2.s = s at *
  generalize i.2.t = t at *
  generalize i.2.l = l at *
  generalize i.2.q = q at *
  generalize i.2.st = st at *
  generalize i.2.L = L at *
  generalize i.1 = y at *
  clear i
  go_enter Tryz.func186, Tryz.ntmps186
  go_wp2_with fail
  obtain ⟨a0, k0, e0, hA, hN, _, _⟩ := own_slice (L := L) (HO.out.alloc (.cells #[.int .i64 s, .int .i64 t, .int .i64 l, .int .i64 q, .bool st, .slice a m c] 38)) HL.out (by omega)
  cases e0
  refine (apart_calls s t l q st a m c L _ hA hN hm).mono ?_
  rintro e w1 ⟨a', c', rfl, hown, hb1⟩
  have hy : w1.heap[w.heap.size]? = some (.cells #[.int .i64 0, .int .i64 0, .int .i64 0, .int .i64 0, .bool false, .slice none 0 0] 38 (0, 0)) :=
    (hb1.block _ (by simp; omega)).trans (((Box.new w 0 0 0 0 false (.slice none 0 0)).alloc _))
  have HY := hidden hy
  have HO1 := hidden hown
  have HB1 : Hid (Below w.heap.size w w1) := (((Below.refl _ _).alloc (Nat.le_refl _) _).alloc (by simp) _).trans (hb1.mono (by simp; omega))
  clear hy hown hb1 hA hN HO hl c0 c1 c2
  obtain ⟨⟨d0, d1, d2, d3, d4, d5⟩, g0, g1, g2, g3, g4, g5⟩ := open6 HY.out
  go_wp2_with fail
  have ho : Only [w.heap.size] w1 _ := only6 (g := w.heap.size) (Only.refl _ w1) (by simp) (.int .i64 s) (.int .i64 t) (.int .i64 l) (.int .i64 q) (.bool st) (.slice a' m c')
  refine bodyPost_ret (res_pk (g := w.heap.size) rfl rfl (box6 HY.out s t l q st _)) rfl ?_
  refine ⟨a', m, c', rfl, ?_, HB1.out.trans (ho.below HB1.out.size (by simp))⟩
  obtain ⟨a2, k2, e2, hA2, _⟩ := own_slice (L := L) (ho.owns HO1.out (fun k hk hc => by
    simp at hc
    subst hc
    rcases HO1.out.2 with ⟨hn, _⟩ | ⟨g, cap, cur, e, _, hgg, _⟩
    · rw [hn] at hk; simp [Value.ownBlock] at hk
    · rw [e] at hk
      simp [Value.ownBlock] at hk
      subst hk
      rw [HY.out] at hgg
      simp at hgg)) HL.out (by omega)
  cases e2
  exact hA2
end Go.Proofs.YtpiamlgmadnepaaGreat.Ring

