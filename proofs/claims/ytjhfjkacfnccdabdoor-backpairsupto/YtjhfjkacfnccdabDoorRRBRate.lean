/-
  What the reference's function ReadBack returns of a rate, and what it makes. It changes nothing that was there.
-/
import Derived.Test.YtjhfjkacfnccdabDoorRRB
import Derived.Deep.RegionHeld3
import Derived.Deep.AppendLies
namespace Go.Proofs.YtjhfjkacfnccdabDoor.Back
open Go.ChangeShapes Go.WideShapes Go.ChangeAt Go.RowKit Go.Sort Go.Lib Go.Proofs.YtjhfjkacfnccdabDoor.BM Go.Proofs.YtjhfjkacfnccdabDoor.Mem
set_option linter.unusedVariables false

set_option maxHeartbeats 1500000 in
set_option maxRecDepth 100000 in
theorem rrb_rate (b o n cap t : Nat) (r : List Nat) (w : World) (h : Arg w (some ⟨b, o, none⟩) n (3 :: t :: r)) (hc : n ≤ cap) (hr : 4 ≤ r.length) :
    Calls Tryd.prog 31 #[.slice (some ⟨b, o, none⟩) n cap] w fun e w' => ∃ (k' t' : Int) (a' : Option Addr) (m c' : Nat) (u' : Int), e = .returned (.tuple #[.agg #[.int .i64 k', .int .i64 t', .slice a' m c', .int .i64 u'], .int .i64 (sfault 3 t r : Int)]) ∧
      (a' = none → m = 0 ∧ c' = 0) ∧ Below w.heap.size w w' ∧ (sfault 3 t r ≠ 0 → k' = 0 ∧ t' = 0 ∧ u' = 0 ∧ IArg w' a' m []) ∧ (sfault 3 t r = 0 → k' = (3 : Nat) ∧ t' = t ∧ u' = saidU 3 r ∧ IArg w' a' m (saidL 3 r)) := by
  have hn : n = r.length + 2 := by have := h.2.1; simpa using this.symm
  have hmax := h.2.2
  have hk := h.1.1 3 (by simp)
  have ht := h.1.1 t (by simp)
  have c0 := arg_cell h 0 (by omega)
  have c1 := arg_cell h 1 (by omega)
  have hlt := World.block_lt_of_cell? w _ c0
  simp only [List.getD_cons_zero, List.getD_cons_succ, Nat.add_zero] at c0 c1
  have d0 : ∀ O, (w.alloc O).cell? ⟨b, o, none⟩ = some (.int .u8 (3 : Nat)) := fun O => (((Below.refl _ _).alloc (Nat.le_refl _) O).cell (p := ⟨b, o, none⟩) hlt).trans c0
  have d1 : ∀ O, (w.alloc O).cell? ⟨b, o + 1, none⟩ = some (.int .u8 (t : Int)) := fun O => (((Below.refl _ _).alloc (Nat.le_refl _) O).cell (p := ⟨b, o + 1, none⟩) hlt).trans c1
  have hwt : IntKind.i64.wrap (t : Int) = (t : Int) := by rw [IntKind.wrap_i64]; omega
  have n1 : (1 : Int) < (n : Int) := by omega
  have n0 : (0 : Int) < (n : Int) := by omega
  have dd2 : decide ((n : Int) < 2) = false := by simp; omega
  have HB1 : Hid (Below w.heap.size w (((w.alloc (.cells #[.int .i64 0, .int .i64 0, .slice none 0 0, .int .i64 0] 56)).alloc (.cells #[.int .i64 ((3 : Nat) : Int), .int .i64 (t : Int), .slice none 0 0, .int .i64 0] 56)).drew)) := (((Below.refl w.heap.size w).alloc (Nat.le_refl _) _).alloc (by simp) _).drew
  have HX0 : Hid (BBox (((w.alloc (.cells #[.int .i64 0, .int .i64 0, .slice none 0 0, .int .i64 0] 56)).alloc (.cells #[.int .i64 ((3 : Nat) : Int), .int .i64 (t : Int), .slice none 0 0, .int .i64 0] 56)).drew) w.heap.size 0 0 (.slice none 0 0) 0) := ((BBox.new w 0 0 (.slice none 0 0) 0).alloc _).drewN 1
  have HX1 := hidden (two_boxes w ((3 : Nat) : Int) t)
  have HA := hidden h
  have HF : Hid (sfault 3 t r = if gfault 3 r then 2 else if efault 3 t (saidL 3 r) (saidU 3 r) ≠ 0 ∨ ebytes 3 t (saidL 3 r) (saidU 3 r) ≠ 3 :: t :: r then 2 else 0) := rfl
  have HEB : Hid (efault 3 t (saidL 3 r) (saidU 3 r) = 0 → encB 3 t (saidL 3 r) (saidU 3 r) = ebytes 3 t (saidL 3 r) (saidU 3 r)) := fun hz => by rw [encB, if_pos hz]
  generalize sfault 3 t r = F at *
  have hg : gfault 3 r = false := by simp [gfault]
  have hsl : saidL 3 r = [] := by simp [saidL]
  have hsu : saidU 3 r = val (r.take 4) := by simp [saidU]
  rw [hg] at HF
  rw [hsl, hsu] at HF HEB ⊢
  have es : ∀ w, (Instr.slice 22 (.slice (some ⟨b, o, none⟩) n cap) (some (.int .i64 2)) (some (.int .i64 6)) none).run Tryd.prog w = .ok (.slice (cutAt (some ⟨b, o, none⟩) cap 2) 4 (cap - 2)) w := fun w => cut_lh (some ⟨b, o, none⟩) n cap 2 6 (by omega) (by omega) w
  have HNU : Hid (∀ W, Below w.heap.size w W → Calls Tryd.prog 43 #[.slice (cutAt (some ⟨b, o, none⟩) cap 2) 4 (cap - 2)] W fun e w' => e = .returned (.int .i64 (val (r.take 4) : Int)) ∧ w' = W) := fun W hW => by
    have := cut_arg (l := 2) (h := 6) h (by omega) (by omega) hc
    exact rnumber_calls _ 4 (cap - 2) (r.take 4) W (this.below hW) (by omega)
  have n6 : decide ((n : Int) < 6) = false := by simp; omega
  generalize val (r.take 4) = x at *
  generalize cutAt (some ⟨b, o, none⟩) cap 2 = aR at *
  clear h hc hn hr c0 c1 hg hsl hsu
  go_enter Tryd.func31, Tryd.ntmps31
  go_wp2_with fail
  go_region
  go_wp2_with fail
  refine (HNU.out _ ((((Below.refl w.heap.size w).alloc (Nat.le_refl _) _).alloc (by simp) _).drew)).mono ?_
  rintro e w1 ⟨rfl, rfl⟩
  go_upto_region 25 with fail
  have HY : Hid (BBox (((w.alloc (.cells #[.int .i64 0, .int .i64 0, .slice none 0 0, .int .i64 0] 56)).alloc (.cells #[.int .i64 ((3 : Nat) : Int), .int .i64 (t : Int), .slice none 0 0, .int .i64 (x : Int)] 56)).drew) (w.heap.size + 1) 3 t (.slice none 0 0) x) := by
    have := BBox.new (w.alloc (.cells #[.int .i64 0, .int .i64 0, .slice none 0 0, .int .i64 0] 56)) 3 t (.slice none 0 0) x
    have h2 : BBox ((w.alloc (.cells #[.int .i64 0, .int .i64 0, .slice none 0 0, .int .i64 0] 56)).alloc (.cells #[.int .i64 3, .int .i64 (t : Int), .slice none 0 0, .int .i64 (x : Int)] 56)) (w.heap.size + 1) 3 t (.slice none 0 0) x := by simpa using this
    exact h2.drewN 1
  have HZ0 : Hid (BBox (((w.alloc (.cells #[.int .i64 0, .int .i64 0, .slice none 0 0, .int .i64 0] 56)).alloc (.cells #[.int .i64 ((3 : Nat) : Int), .int .i64 (t : Int), .slice none 0 0, .int .i64 (x : Int)] 56)).drew) w.heap.size 0 0 (.slice none 0 0) 0) := ((BBox.new w 0 0 (.slice none 0 0) 0).alloc _).drewN 1
  have HB : Hid (Below w.heap.size w (((w.alloc (.cells #[.int .i64 0, .int .i64 0, .slice none 0 0, .int .i64 0] 56)).alloc (.cells #[.int .i64 ((3 : Nat) : Int), .int .i64 (t : Int), .slice none 0 0, .int .i64 (x : Int)] 56)).drew)) := (((Below.refl w.heap.size w).alloc (Nat.le_refl _) _).alloc (by simp) _).drew
  obtain ⟨wx, hwx2⟩ : ∃ z, ((w.alloc (.cells #[.int .i64 0, .int .i64 0, .slice none 0 0, .int .i64 0] 56)).alloc (.cells #[.int .i64 ((3 : Nat) : Int), .int .i64 (t : Int), .slice none 0 0, .int .i64 (x : Int)] 56)).drew = z := ⟨_, rfl⟩
  rw [hwx2] at HB HZ0 HY
  first | rw [hwx2] | (have hwx3 : ((w.alloc (.cells #[.int .i64 0, .int .i64 0, .slice none 0 0, .int .i64 0] 56)).alloc (.cells #[.int .i64 3, .int .i64 (t : Int), .slice none 0 0, .int .i64 (x : Int)] 56)).drew = wx := hwx2; rw [hwx3]; clear hwx3)
  clear hwx2 HB1 HX0 HX1
  have HI := hidden (IArg.nil wx none)
  have HN' : Hid ((none : Option Addr) = none → 0 = 0 ∧ 0 = 0) := fun _ => ⟨rfl, rfl⟩
  have HFA : Hid (∀ ad, (none : Option Addr) = some ad → ad.block ≠ w.heap.size) := fun ad e => by simp at e
  have HRBX := hidden (rbb_gen 3 t none 0 0 (x : Int) [] wx HI.out HN'.out)
  obtain ⟨k0, k1, k2, k3⟩ := HY.out.cells
  have hly := HY.out.lt
  go_wp2_with fail
  refine HRBX.out.mono ?_
  rintro e w3 ⟨a3, m3, c3, rfl, hA3, _, _, hb3⟩
  have HZ3 := hidden (HZ0.out.below hb3 HZ0.out.lt)
  have HY3 := hidden (HY.out.below hb3 hly)
  have HB3 := hidden (HB.out.trans (hb3.mono HB.out.size))
  have HI3 := hidden (HI.out.below hb3)
  have v1 := str_conv (cap := c3) hA3
  have v2 := str_conv (cap := cap) (HA.out.below HB3.out)
  have HSI : Hid (((str (encB 3 t [] (x : Int))).toList = (str (3 :: t :: r)).toList) ↔ encB 3 t [] (x : Int) = 3 :: t :: r) := str_inj hA3.1.1 HA.out.1.1
  clear hA3 hb3 k0 k1 k2 k3 HRBX
  obtain ⟨EB, hEB⟩ : ∃ zq, encB 3 t [] (x : Int) = zq := ⟨_, rfl⟩
  rw [hEB] at v1 HSI
  have HEBE := hidden hEB
  clear hEB
  obtain ⟨f, hf⟩ : ∃ zq, efault 3 t [] (x : Int) = zq := ⟨_, rfl⟩
  rw [hf]
  have HFE := hidden hf
  clear hf
  obtain ⟨j0, j1, j2, j3⟩ := HZ3.out.cells
  have f0 := HZ3.out.free 0
  have f1 := HZ3.out.free 1
  have f2 := HZ3.out.free 2
  have f3 := HZ3.out.free 3
  obtain ⟨S1, hS1⟩ : ∃ zq, str EB = zq := ⟨_, rfl⟩
  obtain ⟨S2, hS2⟩ : ∃ zq, str (3 :: t :: r) = zq := ⟨_, rfl⟩
  rw [hS1] at v1 HSI
  rw [hS2] at v2 HSI
  clear hS1 hS2
  by_cases hz : f = 0
  · have hne0 : ((f : Int) != 0) = false := by rw [hz]; rfl
    have HZF := hidden hz
    clear hz
    by_cases hq : S1.toList = S2.toList
    · have hq1 : (S1.toList == S2.toList) = true := by rw [hq]; exact beq_self_eq_true _
      have hF : F = 0 := by
        rw [HF.out, if_neg (by decide), if_neg]
        rw [not_or, Decidable.not_not, Decidable.not_not]
        refine ⟨HFE.out.trans HZF.out, ?_⟩
        rw [← HEB.out (HFE.out.trans HZF.out), HEBE.out]
        exact HSI.out.1 hq
      subst hF
      clear hq
      obtain ⟨k0, k1, k2, k3⟩ := HY3.out.cells
      go_wp2_with fail
      refine bodyPost_ret (res_bk (g := w.heap.size) rfl rfl (HZ3.out.put 3 t (.slice none 0 0) (x : Int)) ⟨_, _, _, rfl⟩) rfl ?_
      exact ⟨3, t, none, 0, 0, (x : Int), rfl, fun _ => ⟨rfl, rfl⟩, (((HB3.out.setCell (Nat.le_refl _) _).setCell (Nat.le_refl _) _).setCell (Nat.le_refl _) _).setCell (Nat.le_refl _) _, rfl, rfl, rfl, (((HI3.out.set HFA.out _).set HFA.out _).set HFA.out _).set HFA.out _⟩
    · have hF : F = 2 := by
        rw [HF.out, if_neg (by decide), if_pos (.inr (by rw [← HEB.out (HFE.out.trans HZF.out), HEBE.out]; exact fun h => hq (HSI.out.2 h)))]
      subst hF
      have hq1 : (S1.toList == S2.toList) = false := by rw [beq_eq_false_iff_ne]; exact hq
      clear hq
      go_wp2_with fail
      refine bodyPost_ret (res_bk (g := w.heap.size) rfl rfl (HZ3.out.put 0 0 (.slice none 0 0) 0) ⟨_, _, _, rfl⟩) rfl ?_
      exact ⟨0, 0, none, 0, 0, 0, rfl, fun _ => ⟨rfl, rfl⟩, (((HB3.out.setCell (Nat.le_refl _) _).setCell (Nat.le_refl _) _).setCell (Nat.le_refl _) _).setCell (Nat.le_refl _) _, fun _ => ⟨rfl, rfl, rfl, IArg.nil _ _⟩, fun h => absurd h (by decide)⟩
  · have hne0 : ((f : Int) != 0) = true := by rw [bne_iff_ne]; omega
    have hF : F = 2 := by
      rw [HF.out, if_neg (by decide), if_pos (.inl (by rw [HFE.out]; exact hz))]
    subst hF
    clear hz
    go_wp2_with fail
    refine bodyPost_ret (res_bk (g := w.heap.size) rfl rfl (HZ3.out.put 0 0 (.slice none 0 0) 0) ⟨_, _, _, rfl⟩) rfl ?_
    exact ⟨0, 0, none, 0, 0, 0, rfl, fun _ => ⟨rfl, rfl⟩, (((HB3.out.setCell (Nat.le_refl _) _).setCell (Nat.le_refl _) _).setCell (Nat.le_refl _) _).setCell (Nat.le_refl _) _, fun _ => ⟨rfl, rfl, rfl, IArg.nil _ _⟩, fun h => absurd h (by decide)⟩

end Go.Proofs.YtjhfjkacfnccdabDoor.Back
