/-
  What the reference's function ReadBack returns of lost numbers, and what it makes. It changes nothing that was there.
-/
import Derived.Test.YtjhfjkacfnccdabDoorRRB
import Derived.Deep.RegionHeld3
import Derived.Deep.AppendLies
namespace Go.Proofs.YtjhfjkacfnccdabDoor.Back
open Go.ChangeShapes Go.WideShapes Go.ChangeAt Go.RowKit Go.Sort Go.Lib Go.Proofs.YtjhfjkacfnccdabDoor.BM Go.Proofs.YtjhfjkacfnccdabDoor.Mem
set_option linter.unusedVariables false

structure LSt (wx wr : World) (B : List Nat) (P : List (Int × Int)) (i : Nat) (l : List (Int × Int)) (v : Value) : Prop where
  below : Below wx.heap.size wx wr
  own : wr.ownsRow wx.heap.size 89 2 v l.length (pc l)
  is : l ++ prsB (B.drop i) = P

set_option maxHeartbeats 4000000 in
set_option maxRecDepth 100000 in
theorem rrb_lost (b o n cap t : Nat) (r : List Nat) (w : World) (h : Arg w (some ⟨b, o, none⟩) n (1 :: t :: r)) (hc : n ≤ cap) (hr : 4 ≤ r.length) (hm : r.length % 4 = 0) (hN : n ≤ 2000000) :
    Calls Tryd.prog 31 #[.slice (some ⟨b, o, none⟩) n cap] w fun e w' => ∃ (k' t' : Int) (a' : Option Addr) (m c' : Nat) (u' : Int), e = .returned (.tuple #[.agg #[.int .i64 k', .int .i64 t', .slice a' m c', .int .i64 u'], .int .i64 (sfault 1 t r : Int)]) ∧
      (a' = none → m = 0 ∧ c' = 0) ∧ Below w.heap.size w w' ∧ (sfault 1 t r ≠ 0 → k' = 0 ∧ t' = 0 ∧ u' = 0 ∧ IArg w' a' m []) ∧ (sfault 1 t r = 0 → k' = (1 : Nat) ∧ t' = t ∧ u' = saidU 1 r ∧ IArg w' a' m (saidL 1 r)) := by
  have hn : n = r.length + 2 := by have := h.2.1; simpa using this.symm
  have hmax := h.2.2
  have hk := h.1.1 1 (by simp)
  have ht := h.1.1 t (by simp)
  have c0 := arg_cell h 0 (by omega)
  have c1 := arg_cell h 1 (by omega)
  have hlt := World.block_lt_of_cell? w _ c0
  simp only [List.getD_cons_zero, List.getD_cons_succ, Nat.add_zero] at c0 c1
  have d0 : ∀ O, (w.alloc O).cell? ⟨b, o, none⟩ = some (.int .u8 (1 : Nat)) := fun O => (((Below.refl _ _).alloc (Nat.le_refl _) O).cell (p := ⟨b, o, none⟩) hlt).trans c0
  have d1 : ∀ O, (w.alloc O).cell? ⟨b, o + 1, none⟩ = some (.int .u8 (t : Int)) := fun O => (((Below.refl _ _).alloc (Nat.le_refl _) O).cell (p := ⟨b, o + 1, none⟩) hlt).trans c1
  have hwt : IntKind.i64.wrap (t : Int) = (t : Int) := by rw [IntKind.wrap_i64]; omega
  have n1 : (1 : Int) < (n : Int) := by omega
  have n0 : (0 : Int) < (n : Int) := by omega
  have dd2 : decide ((n : Int) < 2) = false := by simp; omega
  have HB1 : Hid (Below w.heap.size w (((w.alloc (.cells #[.int .i64 0, .int .i64 0, .slice none 0 0, .int .i64 0] 56)).alloc (.cells #[.int .i64 ((1 : Nat) : Int), .int .i64 (t : Int), .slice none 0 0, .int .i64 0] 56)).drew)) := (((Below.refl w.heap.size w).alloc (Nat.le_refl _) _).alloc (by simp) _).drew
  have HX0 : Hid (BBox (((w.alloc (.cells #[.int .i64 0, .int .i64 0, .slice none 0 0, .int .i64 0] 56)).alloc (.cells #[.int .i64 ((1 : Nat) : Int), .int .i64 (t : Int), .slice none 0 0, .int .i64 0] 56)).drew) w.heap.size 0 0 (.slice none 0 0) 0) := ((BBox.new w 0 0 (.slice none 0 0) 0).alloc _).drewN 1
  have HX1 := hidden (two_boxes w ((1 : Nat) : Int) t)
  have HA := hidden h
  have HF : Hid (sfault 1 t r = if gfault 1 r then 2 else if efault 1 t (saidL 1 r) (saidU 1 r) ≠ 0 ∨ ebytes 1 t (saidL 1 r) (saidU 1 r) ≠ 1 :: t :: r then 2 else 0) := rfl
  have HEB : Hid (efault 1 t (saidL 1 r) (saidU 1 r) = 0 → encB 1 t (saidL 1 r) (saidU 1 r) = ebytes 1 t (saidL 1 r) (saidU 1 r)) := fun hz => by rw [encB, if_pos hz]
  generalize sfault 1 t r = F at *
  have hmod := hm
  have hgo := gfault_one r hmod
  have hsl : saidL 1 r = numsOf (prsB r) := by simp [saidL]
  have hsu : saidU 1 r = 0 := by simp [saidU]
  rw [hgo] at HF
  rw [hsl, hsu] at HF HEB ⊢
  rw [show ((0 : Nat) : Int) = 0 from rfl] at HF HEB ⊢
  clear hgo hsl hsu
  obtain ⟨i0, hii, hz0, hz1, hz2⟩ := info_parts infoPR
  have n6 : decide ((n : Int) < 6) = false := by simp; omega
  have hrem : ((n : Int)).tmod 4 = 2 := by have : ((n : Int)).tmod 4 = ((n % 4 : Nat) : Int) := rfl; rw [this]; omega
  have hpl : (prsB r).length ≤ n := by have := prsB_len _ r (Nat.le_refl _); omega
  have HNG : Hid (∀ W a m c, PArg W a m (prsB r) → Calls Tryd.prog 26 #[.slice a m c] W _) := fun W a m c hW => rnumbers_gen a m c (prsB r) W hW
  have HP : Hid (prsB ((1 :: t :: r).drop 2) = prsB r) := rfl
  have HNr := hidden hn
  generalize nfault (prsB r) = nf at *
  generalize numsOf (prsB r) = N at *
  generalize prsB r = P at *
  have HC := hidden hc
  clear h hc hr c0 c1 hn
  go_enter Tryd.func31, Tryd.ntmps31
  go_wp2_with fail
  go_region
  go_upto_region 8 with fail
  obtain ⟨wa, hwa⟩ : ∃ x, ((w.alloc (.cells #[.int .i64 0, .int .i64 0, .slice none 0 0, .int .i64 0] 56)).alloc (.cells #[.int .i64 ((1 : Nat) : Int), .int .i64 (t : Int), .slice none 0 0, .int .i64 0] 56)).drew = x := ⟨_, rfl⟩
  have hwas : wa.heap.size = w.heap.size + 2 := by rw [← hwa]; simp
  rw [hwa] at HB1 HX0 HX1
  first | rw [hwa] | (have hwx3 : ((w.alloc (.cells #[.int .i64 0, .int .i64 0, .slice none 0 0, .int .i64 0] 56)).alloc (.cells #[.int .i64 1, .int .i64 (t : Int), .slice none 0 0, .int .i64 0] 56)).drew = wa := hwa; rw [hwx3]; clear hwx3)
  have HWS := hidden hwas
  clear hwa hwas d0 d1
  have HS0 : Hid (LSt wa wa (1 :: t :: r) P 2 [] (.slice none 0 0)) := ⟨Below.refl _ _, World.ownsRow_nil _ _ _ _, HP.out⟩
  go_wp2_with fail
  go_loopg [5, 6] r.length (fun g x y wr => ∃ (i : Nat) (l : List (Int × Int)) (v : Value), i + g = n ∧ g % 4 = 0 ∧ x = v ∧ y = .int .i64 (i : Int) ∧ Hid (LSt wa wr (1 :: t :: r) P i l v))
  case atStart => exact ⟨2, [], _, by have := HNr.out; omega, hmod, rfl, rfl, HS0⟩
  case round =>
    obtain ⟨i, l, v, hin, hg4, rfl, rfl, HS⟩ := hrel
    by_cases h4 : 4 ≤ gk
    · have d : decide ((i : Int) < (n : Int)) = true := by simp; omega
      have hdl : ((1 :: t :: r).drop i).length = gk := by have := HNr.out; simp; omega
      obtain ⟨x0, x1, x2, x3, R, hR⟩ := four (r := (1 :: t :: r).drop i) (by omega)
      have hle := HC.out
      have hI := HS.out.is
      have hd4 : (1 :: t :: r).drop (i + 4) = R := by rw [← List.drop_drop, hR]; rfl
      have hd2 : (1 :: t :: r).drop (i + 2) = x2 :: x3 :: R := by rw [← List.drop_drop, hR]; rfl
      have hl : l.length ≤ n := by
        have h3 : (l ++ prsB ((1 :: t :: r).drop i)).length = P.length := by rw [hI]
        rw [List.length_append] at h3
        omega
      have es1 : ∀ w, (Instr.slice 22 (.slice (some ⟨b, o, none⟩) n cap) (some (.int .i64 (i : Int))) (some (.int .i64 ((i : Int) + 2))) none).run Tryd.prog w = .ok (.slice (cutAt (some ⟨b, o, none⟩) cap i) 2 (cap - i)) w := fun w => by
        have := cut_lh (some ⟨b, o, none⟩) n cap i (i + 2) (by omega) (by omega) w
        rw [show i + 2 - i = 2 by omega, show ((i + 2 : Nat) : Int) = (i : Int) + 2 by omega] at this
        exact this
      have es2 : ∀ w, (Instr.slice 22 (.slice (some ⟨b, o, none⟩) n cap) (some (.int .i64 ((i : Int) + 2))) (some (.int .i64 ((i : Int) + 4))) none).run Tryd.prog w = .ok (.slice (cutAt (some ⟨b, o, none⟩) cap (i + 2)) 2 (cap - (i + 2))) w := fun w => by
        have := cut_lh (some ⟨b, o, none⟩) n cap (i + 2) (i + 4) (by omega) (by omega) w
        rw [show i + 4 - (i + 2) = 2 by omega, show ((i + 2 : Nat) : Int) = (i : Int) + 2 by omega, show ((i + 4 : Nat) : Int) = (i : Int) + 4 by omega] at this
        exact this
      have HN1 : Hid (∀ W, Hid (Below wa.heap.size wa W) → Calls Tryd.prog 43 #[.slice (cutAt (some ⟨b, o, none⟩) cap i) 2 (cap - i)] W fun e w' => e = .returned (.int .i64 (val [x0, x1] : Int)) ∧ w' = W) := fun W hW => by
        have := cut_arg (l := i) (h := i + 2) (HA.out.below HB1.out) (by omega) (by omega) hle
        rw [show i + 2 - i = 2 by omega, hR] at this
        exact rnumber_calls _ 2 _ [x0, x1] W (this.below hW.out) (by omega)
      have HN2 : Hid (∀ W, Hid (Below wa.heap.size wa W) → Calls Tryd.prog 43 #[.slice (cutAt (some ⟨b, o, none⟩) cap (i + 2)) 2 (cap - (i + 2))] W fun e w' => e = .returned (.int .i64 (val [x2, x3] : Int)) ∧ w' = W) := fun W hW => by
        have := cut_arg (l := i + 2) (h := i + 4) (HA.out.below HB1.out) (by omega) (by omega) hle
        rw [show i + 4 - (i + 2) = 2 by omega, hd2] at this
        exact rnumber_calls _ 2 _ [x2, x3] W (this.below hW.out) (by omega)
      have HI : Hid ((l ++ [((val [x0, x1] : Int), (val [x2, x3] : Int))]) ++ prsB ((1 :: t :: r).drop (i + 4)) = P) := by
        have h3 := hI
        rw [hR, prsB_app] at h3
        show _ = _
        rw [hd4, List.append_assoc]
        exact h3
      clear hR hI hd4 hd2 hdl
      generalize ((val [x0, x1] : Nat) : Int) = y0 at *
      generalize ((val [x2, x3] : Nat) : Int) = y1 at *
      generalize cutAt (some ⟨b, o, none⟩) cap i = a1 at *
      generalize cutAt (some ⟨b, o, none⟩) cap (i + 2) = a2 at *
      generalize cap - (i + 2) = kj at *
      generalize cap - i = ki at *
      have hw2 : IntKind.i64.wrap ((i : Int) + 2) = (i : Int) + 2 := by rw [IntKind.wrap_i64]; omega
      have hw4 : IntKind.i64.wrap ((i : Int) + 4) = (i : Int) + 4 := by clear hw2; rw [IntKind.wrap_i64]; omega
      have hb0 : Hid (Below wa.heap.size wa wr.drew) := HS.out.below.drew
      have HBA : Hid (∀ W O, Hid (Below wa.heap.size wa W) → Hid (Below wa.heap.size wa (W.alloc O))) := fun W O hW => hW.out.alloc hW.out.size _
      go_wp2_with fail
      go_region_held3 (fun w' => Hid (Below wa.heap.size wa w')) (first | with_reducible assumption | exact HBA.out _ _ (by with_reducible assumption) | exact hidden (((HS.out.below.alloc HS.out.below.size _).drew).grown hgrow (by have := HS.out.below.size; clear hw2 hw4; simp; omega) (fun j hj => (HS.out.own.lt j hj).1)))
        (first
          | (go_at_call_of 43 kj; refine (HN2.out _ ?_).mono ?_; assumption; rintro e w' ⟨rfl, rfl⟩)
          | (go_at_call_of 43 ki; refine (HN1.out _ ?_).mono ?_; assumption; rintro e w' ⟨rfl, rfl⟩)
          | (refine step_append_lies _ (by rfl) _ _ _ (by rfl) wa.heap.size 89 i0 _ 2 16 Tryd.underlying54 hii hz0 hz1 hz2 rfl (by clear hw2 hw4; omega) _ l.length (pc l) (by rfl) ((HS.out.own.alloc _).drew)
              ⟨wr.heap.size, 0, none⟩ 1 1 [.int .i64 y0, .int .i64 y1] (by rfl) (by rfl) (World.news_of_block (cs := #[.int .i64 y0, .int .i64 y1]) (t := 89) (fr := (0, 0)) (heap_alloc_new wr _)) (by simp [Value.oneCell'])
              (by clear hw2 hw4; omega) (by clear hw2 hw4; unfold maxLen; omega) (by clear hw2 hw4; omega) (by have := HS.out.below.size; clear hw2 hw4; simp; omega) (wr.heap.size + 1) (by simp) ?_; intro gg c3 w3 hown hgrow hat hlt))
      have HSn : Hid (LSt wa w3 (1 :: t :: r) P (i + 4) (l ++ [(y0, y1)]) (.slice (some ⟨gg, 0, none⟩) (l.length + 1) c3)) := by
        refine ⟨((HS.out.below.alloc HS.out.below.size _).drew).grown hgrow (by have := HS.out.below.size; clear hw2 hw4; simp; omega) (fun j hj => (HS.out.own.lt j hj).1), ?_, HI.out⟩
        rw [List.length_append, pc_app]
        exact hown
      clear hown hgrow hat hlt
      go_wp2_with fail
      clear hw2 hw4
      go_roundg (gk - 4)
      case measure => omega
      case rel => exact ⟨i + 4, _, _, by omega, by omega, rfl, by rw [show ((i + 4 : Nat) : Int) = (i : Int) + 4 by omega], HSn⟩
    · have d : decide ((i : Int) < (n : Int)) = false := by simp; omega
      have ho := HS.out.own
      have hI := HS.out.is
      rw [show (1 :: t :: r).drop i = [] from List.drop_eq_nil_of_le (by have := HNr.out; simp; omega), show prsB [] = [] from rfl, List.append_nil] at hI
      rw [hI] at ho
      obtain ⟨a2, c2, rfl, hP2, _⟩ := own_prs ho (by omega)
      have HP2 := hidden hP2
      have HB2 := hidden HS.out.below
      clear ho hP2 HS hI
      go_wp2_with fail
      refine (HNG.out _ _ _ _ HP2.out).mono ?_
      rintro e w3 ⟨a', m, c', rfl, hI3, hn3, hf3, hb3⟩
      have hs2 : w.heap.size + 2 ≤ wr.heap.size := by have h1 := HB2.out.size; have h2 := HWS.out; omega
      have HZ1 : Hid (BBox w3 w.heap.size 0 0 (.slice none 0 0) 0) := (HX0.out.below HB2.out (by have := HWS.out; omega)).below hb3 (by omega)
      have HY1 : Hid (BBox w3 (w.heap.size + 1) 1 t (.slice none 0 0) 0) := (HX1.out.below HB2.out (by have := HWS.out; omega)).below hb3 (by omega)
      have HB3' : Hid (Below w.heap.size w w3) := (HB1.out.trans (HB2.out.mono (by have := HWS.out; omega))).trans (hb3.mono (by omega))
      have HI3' := hidden hI3
      have HF3 := hidden hf3
      have HN' := hidden hn3
      have HS2 := hidden hs2
      clear hb3 hI3 hn3 hf3 HB2 HP2 hs2
      by_cases hnf : nf = 0
      · have hne : ((nf : Int) != 0) = false := by rw [hnf]; rfl
        have hgf : decide (nf ≠ 0) = false := by simp [hnf]
        rw [hgf] at HF
        clear hgf hnf
        obtain ⟨k0, k1, k2, k3⟩ := HY1.out.cells
        have kf := HY1.out.free 2
        go_upto_region 25 with fail
        obtain ⟨wx, hw4⟩ : ∃ w4, w3.setCell ⟨w.heap.size + 1, 2, none⟩ (.slice a' m c') = w4 := ⟨_, rfl⟩
        rw [hw4]
        have HZ0 : Hid (BBox wx w.heap.size 0 0 (.slice none 0 0) 0) := hw4 ▸ HZ1.out.other (by simp) _
        have HY : Hid (BBox wx (w.heap.size + 1) 1 t (.slice a' m c') 0) := hw4 ▸ HY1.out.set2
        have HB : Hid (Below w.heap.size w wx) := hw4 ▸ HB3'.out.setCell (by simp) _
        have HI : Hid (IArg wx a' m N) := hw4 ▸ HI3'.out.set (fun ad e => by have := HF3.out ad e; have := HS2.out; simp; omega) _
        have HFA : Hid (∀ ad, a' = some ad → ad.block ≠ w.heap.size) := fun ad e => by have := HF3.out ad e; have := HS2.out; omega
        clear k0 k1 k2 k3 kf hw4 HZ1 HY1 HB3' HI3' hne
        have HRBX := hidden (rbb_gen 1 t a' m c' (0 : Int) N wx HI.out HN'.out)
        obtain ⟨k0, k1, k2, k3⟩ := HY.out.cells
        have hly := HY.out.lt
        go_wp2_with fail
        refine HRBX.out.mono ?_
        rintro e w3 ⟨a3, m3, c3, rfl, hA3, _, _, hb3⟩
        have HZ3 := hidden (HZ0.out.below hb3 HZ0.out.lt)
        have HY3 := hidden (HY.out.below hb3 hly)
        have HB3 := hidden (HB.out.trans (hb3.mono HB.out.size))
        have HI3 := hidden (HI.out.below hb3)
        have v1 := str_conv (cap := c3) hA3
        have v2 := str_conv (cap := cap) (HA.out.below HB3.out)
        have HSI : Hid (((str (encB 1 t N (0 : Int))).toList = (str (1 :: t :: r)).toList) ↔ encB 1 t N (0 : Int) = 1 :: t :: r) := str_inj hA3.1.1 HA.out.1.1
        clear hA3 hb3 k0 k1 k2 k3 HRBX
        obtain ⟨EB, hEB⟩ : ∃ zq, encB 1 t N (0 : Int) = zq := ⟨_, rfl⟩
        rw [hEB] at v1 HSI
        have HEBE := hidden hEB
        clear hEB
        obtain ⟨f, hf⟩ : ∃ zq, efault 1 t N (0 : Int) = zq := ⟨_, rfl⟩
        rw [hf]
        have HFE := hidden hf
        clear hf
        obtain ⟨j0, j1, j2, j3⟩ := HZ3.out.cells
        have f0 := HZ3.out.free 0
        have f1 := HZ3.out.free 1
        have f2 := HZ3.out.free 2
        have f3 := HZ3.out.free 3
        obtain ⟨S1, hS1⟩ : ∃ zq, str EB = zq := ⟨_, rfl⟩
        obtain ⟨S2, hS2⟩ : ∃ zq, str (1 :: t :: r) = zq := ⟨_, rfl⟩
        rw [hS1] at v1 HSI
        rw [hS2] at v2 HSI
        clear hS1 hS2
        by_cases hz : f = 0
        · have hne0 : ((f : Int) != 0) = false := by rw [hz]; rfl
          have HZF := hidden hz
          clear hz
          by_cases hq : S1.toList = S2.toList
          · have hq1 : (S1.toList == S2.toList) = true := by rw [hq]; exact beq_self_eq_true _
            have hF : F = 0 := by
              rw [HF.out, if_neg (by decide), if_neg]
              rw [not_or, Decidable.not_not, Decidable.not_not]
              refine ⟨HFE.out.trans HZF.out, ?_⟩
              rw [← HEB.out (HFE.out.trans HZF.out), HEBE.out]
              exact HSI.out.1 hq
            subst hF
            clear hq
            obtain ⟨k0, k1, k2, k3⟩ := HY3.out.cells
            go_wp2_with fail
            refine bodyPost_ret (res_bk (g := w.heap.size) rfl rfl (HZ3.out.put 1 t (.slice a' m c') (0 : Int)) ⟨_, _, _, rfl⟩) rfl ?_
            exact ⟨1, t, a', m, c', (0 : Int), rfl, HN'.out, (((HB3.out.setCell (Nat.le_refl _) _).setCell (Nat.le_refl _) _).setCell (Nat.le_refl _) _).setCell (Nat.le_refl _) _, rfl, rfl, rfl, (((HI3.out.set HFA.out _).set HFA.out _).set HFA.out _).set HFA.out _⟩
          · have hF : F = 2 := by
              rw [HF.out, if_neg (by decide), if_pos (.inr (by rw [← HEB.out (HFE.out.trans HZF.out), HEBE.out]; exact fun h => hq (HSI.out.2 h)))]
            subst hF
            have hq1 : (S1.toList == S2.toList) = false := by rw [beq_eq_false_iff_ne]; exact hq
            clear hq
            go_wp2_with fail
            refine bodyPost_ret (res_bk (g := w.heap.size) rfl rfl (HZ3.out.put 0 0 (.slice none 0 0) 0) ⟨_, _, _, rfl⟩) rfl ?_
            exact ⟨0, 0, none, 0, 0, 0, rfl, fun _ => ⟨rfl, rfl⟩, (((HB3.out.setCell (Nat.le_refl _) _).setCell (Nat.le_refl _) _).setCell (Nat.le_refl _) _).setCell (Nat.le_refl _) _, fun _ => ⟨rfl, rfl, rfl, IArg.nil _ _⟩, fun h => absurd h (by decide)⟩
        · have hne0 : ((f : Int) != 0) = true := by rw [bne_iff_ne]; omega
          have hF : F = 2 := by
            rw [HF.out, if_neg (by decide), if_pos (.inl (by rw [HFE.out]; exact hz))]
          subst hF
          clear hz
          go_wp2_with fail
          refine bodyPost_ret (res_bk (g := w.heap.size) rfl rfl (HZ3.out.put 0 0 (.slice none 0 0) 0) ⟨_, _, _, rfl⟩) rfl ?_
          exact ⟨0, 0, none, 0, 0, 0, rfl, fun _ => ⟨rfl, rfl⟩, (((HB3.out.setCell (Nat.le_refl _) _).setCell (Nat.le_refl _) _).setCell (Nat.le_refl _) _).setCell (Nat.le_refl _) _, fun _ => ⟨rfl, rfl, rfl, IArg.nil _ _⟩, fun h => absurd h (by decide)⟩
      · have hne : ((nf : Int) != 0) = true := by rw [bne_iff_ne]; omega
        have hF : F = 2 := by rw [HF.out, if_pos (by simp [hnf])]
        subst hF
        clear hnf
        obtain ⟨j0, j1, j2, j3⟩ := HZ1.out.cells
        have f0 := HZ1.out.free 0
        have f1 := HZ1.out.free 1
        have f2 := HZ1.out.free 2
        have f3 := HZ1.out.free 3
        go_wp2_with fail
        refine bodyPost_ret (res_bk (g := w.heap.size) rfl rfl (HZ1.out.put 0 0 (.slice none 0 0) 0) ⟨_, _, _, rfl⟩) rfl ?_
        exact ⟨0, 0, none, 0, 0, 0, rfl, fun _ => ⟨rfl, rfl⟩, (((HB3'.out.setCell (Nat.le_refl _) _).setCell (Nat.le_refl _) _).setCell (Nat.le_refl _) _).setCell (Nat.le_refl _) _, fun _ => ⟨rfl, rfl, rfl, IArg.nil _ _⟩, fun h => absurd h (by decide)⟩

end Go.Proofs.YtjhfjkacfnccdabDoor.Back
