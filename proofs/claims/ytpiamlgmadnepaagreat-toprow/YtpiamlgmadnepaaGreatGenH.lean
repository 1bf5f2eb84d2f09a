/-
  What hearBack of package node, and Hear of what is said back, return and leave in memory. Their condition: the node is such as it may be.
-/
import Derived.Test.YtpiamlgmadnepaaGreatGenG
namespace Go.Proofs.YtpiamlgmadnepaaGreat.Back
open Go.ChangeShapes Go.WideShapes Go.ChangeAt Go.RowKit Go.Sort Go.Lib Go.Proofs.YtpiamlgmadnepaaGreat.BM Go.Proofs.YtpiamlgmadnepaaGreat.Mem
set_option linter.unusedVariables false

/-- what lies there is new -/
def Fresh (w : World) (a : Option Addr) : Prop := ∀ ad, a = some ad → w.heap.size ≤ ad.block
theorem Fresh.none (w : World) : Fresh w none := fun ad e => by cases e
theorem prs_nil : prsOf [] = [] := List.eq_nil_of_length_eq_zero (by have := (back_again (L := []) rfl).2.2.2.2.1; simpa using this)
set_option maxHeartbeats 4000000 in
set_option maxRecDepth 100000 in
theorem read_two2 (b o n cap k t : Nat) (r : List Nat) (w : World) (h : Arg w (some ⟨b, o, none⟩) n (k :: t :: r)) (hc : n ≤ cap) (hs : rshort (k :: t :: r) = false) :
    Calls Tryz.prog 149 #[.slice (some ⟨b, o, none⟩) n cap] w fun e w' => ∃ (k' t' : Int) (a' : Option Addr) (m c' : Nat) (u' : Int), e = .returned (.tuple #[.agg #[.int .i64 k', .int .i64 t', .slice a' m c', .int .i64 u'], errv (sfault k t r)]) ∧
      Fresh w a' ∧ (a' = none → m = 0 ∧ c' = 0) ∧ Below w.heap.size w w' ∧ (sfault k t r ≠ 0 → k' = 0 ∧ t' = 0 ∧ u' = 0 ∧ IArg w' a' m []) ∧ (sfault k t r = 0 → k' = k ∧ t' = t ∧ u' = saidU k r ∧ IArg w' a' m (saidL k r)) := by
  have HS : Hid (∀ W, Below w.heap.size w W → Calls Tryz.prog 182 #[.slice (some ⟨b, o, none⟩) n cap] W fun e w' => e = .returned (.bool false) ∧ w' = W) := fun W hW => by
    have := short_gen _ n cap _ W (h.below hW)
    rw [hs] at this
    exact this
  have HP : Hid (∀ W, Below w.heap.size w W → Calls Tryz.prog 183 #[.slice (some ⟨b, o, none⟩) n cap] W _) := fun W hW => parse_gen b o n cap k t r W (h.below hW) hc hs
  have HF : Hid (sfault k t r = if gfault k r then 2 else if efault k t (saidL k r) (saidU k r) ≠ 0 ∨ ebytes k t (saidL k r) (saidU k r) ≠ k :: t :: r then 2 else 0) := rfl
  have HEB : Hid (efault k t (saidL k r) (saidU k r) = 0 → encB k t (saidL k r) (saidU k r) = ebytes k t (saidL k r) (saidU k r)) := fun hz => by rw [encB, if_pos hz]
  have HA := hidden h
  generalize sfault k t r = F at *
  generalize saidL k r = L at *
  generalize saidU k r = u at *
  have hB0 : Below w.heap.size w (w.alloc (.cells #[.int .i64 0, .int .i64 0, .slice none 0 0, .int .i64 0] 242)) := (Below.refl _ _).alloc (Nat.le_refl _) _
  have HB0 := hidden hB0
  clear h hs hB0
  obtain ⟨gf, hgf⟩ : ∃ g, gfault k r = g := ⟨_, rfl⟩
  rw [hgf] at HP HF
  cases gf with
  | true =>
    obtain rfl : F = 2 := by rw [HF.out]; rfl
    clear HF HEB
    go_enter Tryz.func149, Tryz.ntmps149
    go_wp2_with fail
    refine (HS.out _ HB0.out).mono ?_
    rintro e w1 ⟨rfl, rfl⟩
    go_wp2_with fail
    refine (HP.out _ HB0.out).mono ?_
    rintro e w1 ⟨k', t', a', m, c', u', rfl, _, _, _, hb1⟩
    have HX0 : Hid (BBox w1 w.heap.size 0 0 (.slice none 0 0) 0) := (BBox.new w 0 0 (.slice none 0 0) 0).below hb1 (by simp)
    have HB1 := hidden (HB0.out.trans (hb1.mono (by simp)))
    clear hb1
    have hlt0 := HX0.out.lt
    go_upto_region 4 with fail
    obtain ⟨w2, hw2⟩ : ∃ w2, w1.alloc (.cells #[.int .i64 k', .int .i64 t', .slice a' m c', .int .i64 u'] 242) = w2 := ⟨_, rfl⟩
    rw [hw2]
    have HY0 : Hid (BBox w2 w.heap.size 0 0 (.slice none 0 0) 0) := hw2 ▸ HX0.out.alloc _
    have HY1 : Hid (BBox w2 w1.heap.size k' t' (.slice a' m c') u') := hw2 ▸ BBox.new w1 k' t' (.slice a' m c') u'
    have HB2 : Hid (Below w.heap.size w w2) := hw2 ▸ HB1.out.alloc HB1.out.size _
    clear hw2 HX0
    obtain ⟨j0, j1, j2, j3⟩ := HY0.out.cells
    have f0 := HY0.out.free 0
    have f1 := HY0.out.free 1
    have f2 := HY0.out.free 2
    have f3 := HY0.out.free 3
    go_wp2_with fail
    refine bodyPost_ret (res_bk (g := w.heap.size) rfl rfl (HY0.out.put 0 0 (.slice none 0 0) 0) ⟨_, _, _, rfl⟩) rfl ?_
    exact ⟨0, 0, none, 0, 0, 0, rfl, Fresh.none w, fun _ => ⟨rfl, rfl⟩, (((HB2.out.setCell (Nat.le_refl _) _).setCell (Nat.le_refl _) _).setCell (Nat.le_refl _) _).setCell (Nat.le_refl _) _, fun _ => ⟨rfl, rfl, rfl, IArg.nil _ _⟩, fun h => absurd h (by decide)⟩
  | false =>
    go_enter Tryz.func149, Tryz.ntmps149
    go_wp2_with fail
    refine (HS.out _ HB0.out).mono ?_
    rintro e w1 ⟨rfl, rfl⟩
    go_wp2_with fail
    refine (HP.out _ HB0.out).mono ?_
    rintro e w1 ⟨k', t', a', m, c', u', rfl, hsd, hn', hfa, hb1⟩
    obtain ⟨rfl, rfl, rfl, hI⟩ := hsd (by first | rfl | trivial)
    have HX0 : Hid (BBox w1 w.heap.size 0 0 (.slice none 0 0) 0) := (BBox.new w 0 0 (.slice none 0 0) 0).below hb1 (by simp)
    have HB1 := hidden (HB0.out.trans (hb1.mono (by simp)))
    have HI1 := hidden hI
    have HN' := hidden hn'
    have HFA : Hid (∀ ad, a' = some ad → ad.block ≠ w.heap.size) := fun ad e => by have := hfa ad e; simp at this; omega
    have HFB : Hid (Fresh w a') := fun ad e => by have := hfa ad e; simp at this; omega
    clear hb1 hsd hI hn' hfa
    have hlt0 := HX0.out.lt
    go_upto_region 4 with fail
    obtain ⟨w2, hw2⟩ : ∃ w2, w1.alloc (.cells #[.int .i64 (k : Int), .int .i64 (t : Int), .slice a' m c', .int .i64 (u : Int)] 242) = w2 := ⟨_, rfl⟩
    rw [hw2]
    have HY0 : Hid (BBox w2 w.heap.size 0 0 (.slice none 0 0) 0) := hw2 ▸ HX0.out.alloc _
    have HY1 : Hid (BBox w2 w1.heap.size k t (.slice a' m c') (u)) := hw2 ▸ BBox.new w1 k t (.slice a' m c') (u)
    have HB2 : Hid (Below w.heap.size w w2) := hw2 ▸ HB1.out.alloc HB1.out.size _
    have HI2 : Hid (IArg w2 a' m (L)) := HI1.out.below (hw2 ▸ (Below.refl _ _).alloc (Nat.le_refl _) _)
    have hlt2 : w1.heap.size < w2.heap.size := HY1.out.lt
    have HEN := hidden (encode_gen k t a' m c' (u) (L) w2 HI2.out HN'.out)
    have cne := cmp_ne (efault k t (L) (u))
    have gne := grd_ne (efault k t (L) (u))
    clear hw2 HX0 HI1
    generalize encB k t L u = EB at *
    generalize ebytes k t L u = EC at *
    generalize efault k t L u = f at *
    obtain ⟨k0, k1, k2, k3⟩ := HY1.out.cells
    go_wp2_with fail
    refine HEN.out.mono ?_
    rintro e w3 ⟨a3, m3, c3, rfl, hA3, _, _, hb3⟩
    have HZ0 := hidden (HY0.out.below hb3 HY0.out.lt)
    have HZ1 := hidden (HY1.out.below hb3 HY1.out.lt)
    have HB3 := hidden (HB2.out.trans (hb3.mono HB2.out.size))
    have HI3 := hidden (HI2.out.below hb3)
    have HEQ := hidden (equal_calls a3 (some ⟨b, o, none⟩) m3 c3 n cap EB (k :: t :: r) w3 hA3 (HA.out.below (HB2.out.trans (hb3.mono HB2.out.size))))
    clear hA3 hb3 k0 k1 k2 k3 HEN HI2 HB2 HY0 HY1
    obtain ⟨z, hz⟩ : ∃ z, decide (f = 0) = z := ⟨_, rfl⟩
    rw [hz] at cne
    obtain ⟨q, hq⟩ : ∃ q, decide (EB = k :: t :: r) = q := ⟨_, rfl⟩
    rw [hq] at HEQ
    obtain ⟨j0, j1, j2, j3⟩ := HZ0.out.cells
    have f0 := HZ0.out.free 0
    have f1 := HZ0.out.free 1
    have f2 := HZ0.out.free 2
    have f3 := HZ0.out.free 3
    have HZ := hidden hz
    have HQ := hidden hq
    clear hz hq
    have hfin : ∀ W, Hid (Below w.heap.size w W) → Hid (Below w.heap.size w ((((W.setCell ⟨w.heap.size, 0, none⟩ (.int .i64 0)).setCell ⟨w.heap.size, 1, none⟩ (.int .i64 0)).setCell ⟨w.heap.size, 2, none⟩ (.slice none 0 0)).setCell ⟨w.heap.size, 3, none⟩ (.int .i64 0))) := fun W hW => (((hW.out.setCell (Nat.le_refl _) _).setCell (Nat.le_refl _) _).setCell (Nat.le_refl _) _).setCell (Nat.le_refl _) _
    have HFIN := hidden hfin
    clear hfin
    cases z with
    | false =>
      have hF : F = 2 := by
        rw [HF.out, if_neg (by decide), if_pos (.inl (of_decide_eq_false HZ.out))]
      subst hF
      go_wp2_with fail
      refine bodyPost_ret (res_bk (g := w.heap.size) rfl rfl (HZ0.out.put 0 0 (.slice none 0 0) 0) ⟨_, _, _, rfl⟩) rfl ?_
      exact ⟨0, 0, none, 0, 0, 0, rfl, Fresh.none w, fun _ => ⟨rfl, rfl⟩, HFIN.out _ HB3, fun _ => ⟨rfl, rfl, rfl, IArg.nil _ _⟩, fun h => absurd h (by decide)⟩
    | true =>
      cases q with
      | false =>
        have hF : F = 2 := by
          rw [HF.out, if_neg (by decide), if_pos (.inr (by rw [← HEB.out (of_decide_eq_true HZ.out)]; exact of_decide_eq_false HQ.out))]
        subst hF
        go_wp2_with fail
        refine HEQ.out.mono ?_
        rintro e w4 ⟨rfl, rfl⟩
        go_wp2_with fail
        refine bodyPost_ret (res_bk (g := w.heap.size) rfl rfl (HZ0.out.put 0 0 (.slice none 0 0) 0) ⟨_, _, _, rfl⟩) rfl ?_
        exact ⟨0, 0, none, 0, 0, 0, rfl, Fresh.none w, fun _ => ⟨rfl, rfl⟩, HFIN.out _ HB3, fun _ => ⟨rfl, rfl, rfl, IArg.nil _ _⟩, fun h => absurd h (by decide)⟩
      | true =>
        have hF : F = 0 := by
          rw [HF.out, if_neg (by decide), if_neg]
          rw [not_or, Decidable.not_not, Decidable.not_not]
          exact ⟨of_decide_eq_true HZ.out, by rw [← HEB.out (of_decide_eq_true HZ.out)]; exact of_decide_eq_true HQ.out⟩
        subst hF
        obtain ⟨k0, k1, k2, k3⟩ := HZ1.out.cells
        go_wp2_with fail
        refine HEQ.out.mono ?_
        rintro e w4 ⟨rfl, rfl⟩
        go_wp2_with fail
        refine bodyPost_ret (res_bk (g := w.heap.size) rfl rfl (HZ0.out.put k t (.slice a' m c') u) ⟨_, _, _, rfl⟩) rfl ?_
        exact ⟨k, t, a', m, c', u, rfl, HFB.out, HN'.out, (((HB3.out.setCell (Nat.le_refl _) _).setCell (Nat.le_refl _) _).setCell (Nat.le_refl _) _).setCell (Nat.le_refl _) _, rfl, rfl, rfl, (((HI3.out.set HFA.out _).set HFA.out _).set HFA.out _).set HFA.out _⟩
/-- Read, of whatever bytes -/
theorem read_gen2 (a : Option Addr) (n cap : Nat) (B : List Nat) (w : World) (h : Arg w a n B) (hc : n ≤ cap) :
    Calls Tryz.prog 149 #[.slice a n cap] w fun e w' => ∃ (k' t' : Int) (a' : Option Addr) (m c' : Nat) (u' : Int), e = .returned (.tuple #[.agg #[.int .i64 k', .int .i64 t', .slice a' m c', .int .i64 u'], errv (rfault B)]) ∧ Fresh w a' ∧ Reads w w' B k' t' a' m c' u' := by
  by_cases hs : rshort B = true
  · have hf : rfault B = 8 := by unfold rfault; rw [if_pos hs]
    refine (read_short a n cap B w h hs).mono ?_
    rintro e w' ⟨rfl, hb⟩
    refine ⟨0, 0, none, 0, 0, 0, by rw [hf], Fresh.none w, fun _ => ⟨rfl, rfl⟩, hb, fun _ => ⟨rfl, rfl, rfl, IArg.nil _ _⟩, fun h0 => ?_⟩
    rw [hf] at h0
    omega
  · have hs' : rshort B = false := by simpa using hs
    match B, h, hs' with
    | [], _, h1 => simp [rshort] at h1
    | [_], _, h1 => simp [rshort] at h1
    | k :: t :: r, h, h1 =>
      have hf := rfault_two k t r h1
      obtain ⟨b, o, rfl⟩ := arg_at h (by have := h.2.1; simp at this; omega)
      refine (read_two2 b o n cap k t r w h hc h1).mono ?_
      rintro e w' ⟨k', t', a', m, c', u', rfl, hfr, hn, hb, h2, h3⟩
      refine ⟨k', t', a', m, c', u', by rw [hf], hfr, hn, hb, fun h0 => h2 (by rw [hf] at h0; exact h0), fun h0 => ?_⟩
      rw [hf] at h0
      obtain ⟨e1, e2, e3, e4⟩ := h3 h0
      exact ⟨k, t, r, rfl, h1, h0, e1, e2, e3, e4⟩
end Go.Proofs.YtpiamlgmadnepaaGreat.Back
namespace Go.Proofs.YtpiamlgmadnepaaGreat.ND
open Go.ChangeShapes Go.WideShapes Go.ChangeAt Go.RowKit Go.Maps Go.Lib Go.Proofs.YtpiamlgmadnepaaGreat.Mem Go.Proofs.YtpiamlgmadnepaaGreat.NO
set_option linter.unusedVariables false

set_option maxHeartbeats 1000000 in
set_option maxRecDepth 100000 in
theorem hearBack_lostG (n b i : Nat) (o : Nat → Tg) (P : NP) (N : Nd) (tr : Tr) (fr : Int) (L : List Int) (a : Option Addr) (m cap : Nat) (w : World) (hn : n ≠ 0) (hN : NAt w o n b P N) (hi : i < 8) (ht : N.tr i = some tr) (hR : RM.Inv 64 tr.rT tr.rM) (hA : Arg w a m (Back.ebytes 1 ((i : Int) + 1) L 0)) (hc : m ≤ cap) (hef : Back.efault 1 ((i : Int) + 1) L 0 = 0) (hkid : fr ∈ tr.kids) (hkf : ∀ x ∈ tr.rM, PM.fault x.2.s x.2.t x.2.l x.2.q x.2.L.length = 0) (hl : N.lt.length ≤ 1000) :
    Calls Tryz.prog 117 #[.pointer (some ⟨b, 0, none⟩), .int .i64 fr, .slice a m cap] w fun e w' => e = .returned .nilIface ∧ Done w w' o n b { N with lt := N.lt ++ L.flatMap (againL tr fr) } := by
  obtain ⟨k1, t1, r, e1, e2, e3, e4, e5, e6, e7⟩ := Back.again hef
  have hk1 : k1 = 1 := by omega
  have ht1 : t1 = i + 1 := by omega
  subst hk1
  subst ht1
  rw [e3] at hA
  have hrf : Back.rfault (1 :: (i + 1) :: r) = 0 := (Back.rfault_two 1 (i + 1) r e4).trans e5
  have CR := hidden (Back.read_gen2 a m cap _ w hA hc)
  rw [hrf] at CR
  obtain ⟨o0, ho0⟩ : ∃ o0, grow o w nobody = o0 := ⟨_, rfl⟩
  have he0 : Ext w o o0 := by rw [← ho0]; exact grow_ext o w nobody
  obtain ⟨R, hRes⟩ : ∃ R : Nd, { N with lt := N.lt ++ L.flatMap (againL tr fr) } = R := ⟨_, rfl⟩
  rw [hRes]
  have hlp := Back.pfault_zero (Back.efault_zero hef).2
  obtain ⟨nl, hnl⟩ : ∃ nl, L.length = nl := ⟨_, rfl⟩
  have hnl2 : nl ≤ 200 := by rw [← hnl]; exact hlp.1
  have HS : Hid (∀ W a' c', Below w.heap.size w W → Back.Fresh w a' → Back.IArg W a' nl L → Calls Tryz.prog 151 #[.pointer (some ⟨b, 0, none⟩), .int .i64 fr, .pointer (some ⟨(P.tp i).p, 0, none⟩), .slice a' nl c'] W fun e w' => e = .returned (.tuple #[]) ∧ Hid (Done w w' o n b R)) := by
    refine hidden ?_
    intro W a' c' hBW hfr hIA
    have hNW : NAt W o0 n b P N := hN.chg (S := fun _ => False) (Chg.of_below hBW _ _) (fun g hg => hg.elim) he0
    have C := again_any n b i o0 P N tr fr a' nl c' L W hn hNW hi ht hR hkf hIA (fun ad e _ => by rw [← ho0, grow_new (hfr ad e)]) hlp.2 (by omega) hl
    rw [hRes] at C
    refine C.mono ?_
    rintro e w' ⟨rfl, o', lv, q1, q2, q3⟩
    exact ⟨rfl, hidden ⟨o', _, q1, he0.trans q2 hBW.size, (Chg.of_below hBW _ _).trans (lets_mine q3) he0⟩⟩
  have HN := hidden hN
  have HTr := hidden ht
  have HK := hidden hkid
  have HZ := hidden (And.intro hrf (And.intro e6 e7))
  obtain ⟨hk3, hk5, hk4⟩ := k_facts hi
  have hi8 := hi
  have HNL := hidden hnl
  clear hN ht hR hA hc hef hkid hkf hl hlp hnl e1 e2 e3 e4 e5 e6 e7 hrf ho0 he0 hRes hi
  go_enter Tryz.func117, Tryz.ntmps117
  go_wp2_with fail
  refine CR.out.mono ?_
  rintro e w1 ⟨k', t', a', m', c', u', rfl, hfr, _, hb1, _, hz⟩
  rw [show Back.errv 0 = Value.nilIface from rfl]
  obtain ⟨rfl, rfl, rfl, hIA⟩ : k' = 1 ∧ t' = (i : Int) + 1 ∧ nl = m' ∧ Back.IArg w1 a' m' L := by
    obtain ⟨kk, tt, rr, hcons, _, _, hk', ht', _, hIA⟩ := hz HZ.out.1
    cases hcons
    rw [HZ.out.2.1] at hIA
    exact ⟨by rw [hk']; rfl, by rw [ht']; omega, HNL.out.symm.trans hIA.2.1, hIA⟩
  obtain ⟨W1, hW1⟩ : ∃ W1, w1.alloc (.cells #[.int .i64 1, .int .i64 ((i : Int) + 1), .slice a' nl c', .int .i64 u'] 242) = W1 := ⟨_, rfl⟩
  have hB1 : Below w1.heap.size w1 W1 := by rw [← hW1]; exact (Below.refl _ _).alloc (Nat.le_refl _) _
  have hbx : W1.heap[w1.heap.size]? = some (.cells #[.int .i64 1, .int .i64 ((i : Int) + 1), .slice a' nl c', .int .i64 u'] 242 (0, 0)) := by rw [← hW1]; exact heap_alloc_new w1 _
  have f0 : W1.cell? ⟨w1.heap.size, 0, none⟩ = some (.int .i64 1) := by simp [World.cell?, hbx]
  have f1 : W1.cell? ⟨w1.heap.size, 1, none⟩ = some (.int .i64 ((i : Int) + 1)) := by simp [World.cell?, hbx]
  have f2 : W1.cell? ⟨w1.heap.size, 2, none⟩ = some (.slice a' nl c') := by simp [World.cell?, hbx]
  have hBt : Below w.heap.size w W1 := hb1.trans (hB1.mono hb1.size)
  have hN1 := HN.out.below hBt
  have ct := hN1.track hi8
  have hT := (hN1.trs i hi8 tr HTr.out).1
  have c3 : W1.cell? ⟨(P.tp i).p, 3, none⟩ = some (.slice (P.tp i).ka tr.kids.length (P.tp i).kc) := by simp [World.cell?, hT.box]
  have CC := fun j => contains_calls (P.tp i).ka tr.kids.length (P.tp i).kc tr.kids fr (W1.drewN j) ⟨fun z hz => hT.kid.1 z hz, hT.kid.2⟩
  rw [decide_eq_true HK.out] at CC
  have HC := hidden CC
  have CS := hidden (fun j => HS.out (W1.drewN j) a' c' (below_drewN' hBt) hfr ((hIA.below hB1).below (below_drewN' (Below.refl _ _))))
  rw [HTr.out] at ct
  simp only [tpv] at ct
  obtain ⟨pb, hpb⟩ : ∃ pb, w1.heap.size = pb := ⟨_, rfl⟩
  rw [hpb] at f0 f1 f2
  obtain ⟨pp, hpp⟩ : ∃ pp, (P.tp i).p = pp := ⟨_, rfl⟩
  obtain ⟨ka, hka⟩ : ∃ ka, (P.tp i).ka = ka := ⟨_, rfl⟩
  obtain ⟨kc, hkc⟩ : ∃ kc, (P.tp i).kc = kc := ⟨_, rfl⟩
  obtain ⟨kl, hkl⟩ : ∃ kl, tr.kids.length = kl := ⟨_, rfl⟩
  rw [hpp] at ct c3 CS
  rw [hka, hkc, hkl] at c3 HC
  have HW1 := hidden hW1
  clear hb1 hB1 hbx hBt hW1 hN1 hz CR hT CC hpp hka hkc hkl hIA HS hfr
  go_upto_region 4 with fail
  first | rw [HW1.out] | skip
  clear hpb
  go_quiet (fail)
  go_wp2_with fail
  refine (HC.out _).mono ?_
  rintro e w2 ⟨rfl, rfl⟩
  go_wp2_with fail
  refine (CS.out _).mono ?_
  rintro e w3 ⟨rfl, HD⟩
  go_wp2_with fail
  go_ret
  exact ⟨rfl, HD.out⟩
theorem sayUp_here (n b i : Nat) (o : Nat → Tg) (P : NP) (N : Nd) (tr : Tr) (w : World) (bk : Value) (hbk : ∃ k t a m c u, bk = .agg #[.int .i64 k, .int .i64 t, .slice a m c, .int .i64 u]) (hN : NAt w o n b P N) (hi : i < 8) (ht : N.tr i = some tr) (hpa : tr.pa = -1) :
    Calls Tryz.prog 152 #[.pointer (some ⟨b, 0, none⟩), .pointer (some ⟨(P.tp i).p, 0, none⟩), bk] w fun e w' => e = .returned (.tuple #[]) ∧ Below w.heap.size w w' := by
  obtain ⟨k, t, a, m, c, u, rfl⟩ := hbk
  have hT := (hN.trs i hi tr ht).1.box
  have c2 : ∀ O, (w.alloc O).cell? ⟨(P.tp i).p, 2, none⟩ = some (.int .i64 (-1)) := by
    intro O
    have : (w.alloc O).heap[(P.tp i).p]? = _ := (Below.heap_alloc _ _ _ (lt_of_block hT)).trans hT
    rw [← hpa]
    simp [World.cell?, this]
  obtain ⟨pp, hpp⟩ : ∃ pp, (P.tp i).p = pp := ⟨_, rfl⟩
  rw [hpp] at c2
  rw [hpp]
  clear hT hN hi ht hpa hpp
  go_enter Tryz.func152, Tryz.ntmps152
  go_wp2_with fail
  (try simp only [Exit.inBlock, Exit.then])
  refine bodyPost_ret (results_none rfl _ _ _) rfl ?_
  exact ⟨rfl, (Below.refl _ _).alloc (Nat.le_refl _) _⟩
set_option maxHeartbeats 1000000 in
set_option maxRecDepth 100000 in
theorem hearBack_keyG (n b i : Nat) (o : Nat → Tg) (P : NP) (N : Nd) (tr : Tr) (fr v : Int) (a : Option Addr) (m cap : Nat) (w : World) (hn : n ≠ 0) (hN : NAt w o n b P N) (hi : i < 8) (ht : N.tr i = some tr) (hA : Arg w a m (Back.ebytes 2 ((i : Int) + 1) [] v)) (hc : m ≤ cap) (hef : Back.efault 2 ((i : Int) + 1) [] v = 0) (hkid : fr ∈ tr.kids) (hl : N.lt.length ≤ 1000) :
    Calls Tryz.prog 117 #[.pointer (some ⟨b, 0, none⟩), .int .i64 fr, .slice a m cap] w fun e w' => e = .returned .nilIface ∧ Done w w' o n b { N with lt := N.lt ++ (if tr.pa = -1 then [] else [(tr.pa, Back.ebytes 2 ((i : Int) + 1) [] v)]) } := by
  obtain ⟨k1, t1, r, e1, e2, e3, e4, e5, e6, e7⟩ := Back.again hef
  have hk1 : k1 = 2 := by omega
  have ht1 : t1 = i + 1 := by omega
  subst hk1
  subst ht1
  rw [e3] at hA
  have hrf : Back.rfault (2 :: (i + 1) :: r) = 0 := (Back.rfault_two 2 (i + 1) r e4).trans e5
  have CR := hidden (Back.read_gen2 a m cap _ w hA hc)
  rw [hrf] at CR
  obtain ⟨o0, ho0⟩ : ∃ o0, grow o w nobody = o0 := ⟨_, rfl⟩
  have he0 : Ext w o o0 := by rw [← ho0]; exact grow_ext o w nobody
  obtain ⟨R, hRes⟩ : ∃ R : Nd, { N with lt := N.lt ++ (if tr.pa = -1 then [] else [(tr.pa, Back.ebytes 2 ((i : Int) + 1) [] v)]) } = R := ⟨_, rfl⟩
  rw [hRes]
  have HS : Hid (∀ W a' c', Below w.heap.size w W → Back.IArg W a' 0 [] → (a' = none → True ∧ c' = 0) → Calls Tryz.prog 152 #[.pointer (some ⟨b, 0, none⟩), .pointer (some ⟨(P.tp i).p, 0, none⟩), .agg #[.int .i64 2, .int .i64 ((i : Int) + 1), .slice a' 0 c', .int .i64 v]] W fun e w' => e = .returned (.tuple #[]) ∧ Hid (Done w w' o n b R)) := by
    refine hidden ?_
    intro W a' c' hBW hIA hno
    have hNW : NAt W o0 n b P N := hN.chg (S := fun _ => False) (Chg.of_below hBW _ _) (fun g hg => hg.elim) he0
    by_cases hpa : tr.pa = -1
    · rw [if_pos hpa, List.append_nil] at hRes
      refine (sayUp_here n b i o0 P N tr W (.agg #[.int .i64 2, .int .i64 ((i : Int) + 1), .slice a' 0 c', .int .i64 v]) ⟨_, _, _, _, _, _, rfl⟩ hNW hi ht hpa).mono ?_
      rintro e w' ⟨rfl, hb⟩
      refine ⟨rfl, hidden ⟨o0, P, ?_, he0, (Chg.of_below hBW _ _).trans (Chg.of_below hb o0 _) he0⟩⟩
      rw [← hRes]
      exact hNW.below hb
    · rw [if_neg hpa] at hRes
      have C := sayUp_calls n b i o0 P N tr 2 ((i : Int) + 1) v a' 0 c' [] W hn hNW hi ht hpa hIA (fun e => ⟨rfl, (hno e).2⟩) hef (by
        show (Back.ebytes 2 ((i : Int) + 1) [] v).length ≤ 2000
        unfold Back.ebytes Back.tail
        rw [Back.prs_nil]
        simp [Back.be_len, Back.pbytes]) (by omega)
      rw [hRes] at C
      refine C.mono ?_
      rintro e w' ⟨rfl, o', lv, q1, q2, q3⟩
      exact ⟨rfl, hidden ⟨o', _, q1, he0.trans q2 hBW.size, (Chg.of_below hBW _ _).trans (lets_mine q3) he0⟩⟩
  have HN := hidden hN
  have HTr := hidden ht
  have HK := hidden hkid
  have HZ := hidden (And.intro hrf (And.intro e6 e7))
  obtain ⟨hk3, hk5, hk4⟩ := k_facts hi
  have hi8 := hi
  clear hN ht hA hc hef hkid hl e1 e2 e3 e4 e5 e6 e7 hrf ho0 he0 hRes hi
  go_enter Tryz.func117, Tryz.ntmps117
  go_wp2_with fail
  refine CR.out.mono ?_
  rintro e w1 ⟨k', t', a', m', c', u', rfl, _, hno', hb1, _, hz⟩
  rw [show Back.errv 0 = Value.nilIface from rfl]
  obtain ⟨rfl, rfl, rfl, rfl, hIA⟩ : k' = 2 ∧ t' = (i : Int) + 1 ∧ m' = 0 ∧ v = u' ∧ Back.IArg w1 a' m' [] := by
    obtain ⟨kk, tt, rr, hcons, _, _, hk', ht', hu', hIA⟩ := hz HZ.out.1
    cases hcons
    rw [HZ.out.2.1] at hIA
    exact ⟨by rw [hk']; rfl, by rw [ht']; omega, hIA.2.1.symm, HZ.out.2.2.symm.trans hu'.symm, hIA⟩
  obtain ⟨W1, hW1⟩ : ∃ W1, w1.alloc (.cells #[.int .i64 2, .int .i64 ((i : Int) + 1), .slice a' 0 c', .int .i64 v] 242) = W1 := ⟨_, rfl⟩
  have hB1 : Below w1.heap.size w1 W1 := by rw [← hW1]; exact (Below.refl _ _).alloc (Nat.le_refl _) _
  have hbx : W1.heap[w1.heap.size]? = some (.cells #[.int .i64 2, .int .i64 ((i : Int) + 1), .slice a' 0 c', .int .i64 v] 242 (0, 0)) := by rw [← hW1]; exact heap_alloc_new w1 _
  have f0 : W1.cell? ⟨w1.heap.size, 0, none⟩ = some (.int .i64 2) := by simp [World.cell?, hbx]
  have f1 : W1.cell? ⟨w1.heap.size, 1, none⟩ = some (.int .i64 ((i : Int) + 1)) := by simp [World.cell?, hbx]
  have f2 : W1.cell? ⟨w1.heap.size, 2, none⟩ = some (.slice a' 0 c') := by simp [World.cell?, hbx]
  have f3 : W1.cell? ⟨w1.heap.size, 3, none⟩ = some (.int .i64 v) := by simp [World.cell?, hbx]
  have hBt : Below w.heap.size w W1 := hb1.trans (hB1.mono hb1.size)
  have hN1 := HN.out.below hBt
  have ct := hN1.track hi8
  have hT := (hN1.trs i hi8 tr HTr.out).1
  have c3 : W1.cell? ⟨(P.tp i).p, 3, none⟩ = some (.slice (P.tp i).ka tr.kids.length (P.tp i).kc) := by simp [World.cell?, hT.box]
  have CC := fun j => contains_calls (P.tp i).ka tr.kids.length (P.tp i).kc tr.kids fr (W1.drewN j) ⟨fun z hz => hT.kid.1 z hz, hT.kid.2⟩
  rw [decide_eq_true HK.out] at CC
  have HC := hidden CC
  have CS := hidden (fun j => HS.out (W1.drewN j) a' c' (below_drewN' hBt) ((hIA.below hB1).below (below_drewN' (Below.refl _ _))) (fun e => ⟨trivial, (hno' e).2⟩))
  rw [HTr.out] at ct
  simp only [tpv] at ct
  obtain ⟨pb, hpb⟩ : ∃ pb, w1.heap.size = pb := ⟨_, rfl⟩
  rw [hpb] at f0 f1 f2 f3
  obtain ⟨pp, hpp⟩ : ∃ pp, (P.tp i).p = pp := ⟨_, rfl⟩
  obtain ⟨ka, hka⟩ : ∃ ka, (P.tp i).ka = ka := ⟨_, rfl⟩
  obtain ⟨kc, hkc⟩ : ∃ kc, (P.tp i).kc = kc := ⟨_, rfl⟩
  obtain ⟨kl, hkl⟩ : ∃ kl, tr.kids.length = kl := ⟨_, rfl⟩
  rw [hpp] at ct c3 CS
  rw [hka, hkc, hkl] at c3 HC
  have HW1 := hidden hW1
  clear hb1 hB1 hbx hBt hW1 hN1 hz CR hT CC hpp hka hkc hkl hIA HS hno'
  go_upto_region 4 with fail
  first | rw [HW1.out] | skip
  clear hpb
  go_quiet (fail)
  go_wp2_with fail
  refine (HC.out _).mono ?_
  rintro e w2 ⟨rfl, rfl⟩
  go_wp2_with fail
  refine (CS.out _).mono ?_
  rintro e w3 ⟨rfl, HD⟩
  go_wp2_with fail
  go_ret
  exact ⟨rfl, HD.out⟩
def Res (Φ : Nat → Nd → Prop) (w w' : World) (o : Nat → Tg) (n b : Nat) (N : Nd) (f : Nat) : Prop := (f = 0 → ∃ N', Φ f N' ∧ Done w w' o n b N') ∧ (f ≠ 0 → Φ f N ∧ Below w.heap.size w w')
theorem head_cell {w : World} {b o m : Nat} {B : List Nat} (h : Arg w (some ⟨b, o, none⟩) m B) (hm : 0 < m) : ∃ x, B.head? = some x ∧ x < 256 ∧ w.cell? ⟨b, o, none⟩ = some (.int .u8 (x : Int)) := by
  match B, h with
  | [], h => have := h.2.1; simp at this; omega
  | x :: B, h =>
    refine ⟨x, rfl, h.1.1 x (by simp), ?_⟩
    have := Pack.arg_cell h 0 hm
    simpa using this
set_option maxHeartbeats 2000000 in
set_option maxRecDepth 100000 in
/-- Hear, of whatever bytes: by what hearFrame and hearBack make of them -/
theorem hear_gen (n b : Nat) (o : Nat → Tg) (P : NP) (N : Nd) (fr now : Int) (a : Option Addr) (m cap : Nat) (B : List Nat) (w : World) (Φ : Nat → Nd → Prop) (hn : n ≠ 0) (hN : NAt w o n b P N) (hnow : GM.tf N.nw now = 0) (hA : Arg w a m B)
    (HF : ∀ W, Below w.heap.size w W → B.head? = some 70 → Calls Tryz.prog 116 #[.pointer (some ⟨b, 0, none⟩), .int .i64 fr, .slice a m cap, .int .i64 now] W fun e w' => ∃ f, e = .returned (errv f) ∧ Res Φ W w' (grow o w nobody) n b N f)
    (HB : ∀ W, Below w.heap.size w W → B.head? ≠ some 70 → Calls Tryz.prog 117 #[.pointer (some ⟨b, 0, none⟩), .int .i64 fr, .slice a m cap] W fun e w' => ∃ f, e = .returned (errv f) ∧ Res Φ W w' (grow o w nobody) n b N f) :
    Calls Tryz.prog 89 #[.pointer (some ⟨b, 0, none⟩), .int .i64 fr, .slice a m cap, .int .i64 now] w fun e w' => ∃ f, e = .returned (errv f) ∧ (f = 0 → ∃ N', Φ f N' ∧ Done w w' o n b { N' with nw := now }) ∧ (f ≠ 0 → Φ f N ∧ Below w.heap.size w w') := by
  have CA := hidden (Gaps.at_calls N.nw now w)
  rw [if_pos hnow, hnow] at CA
  obtain ⟨o0, ho0⟩ : ∃ o0, grow o w nobody = o0 := ⟨_, rfl⟩
  rw [ho0] at HF HB
  have he0 : Ext w o o0 := by rw [← ho0]; exact grow_ext o w nobody
  have hnew : ∀ j, w.heap.size ≤ j → (o0 j).n = 0 := fun j hj => by rw [← ho0, grow_new hj]
  have c0 := hN.cells.1
  obtain ⟨nw, hnw⟩ : ∃ nw, N.nw = nw := ⟨_, rfl⟩
  rw [hnw] at c0 CA
  have HE0 := hidden he0
  have HNew := hidden hnew
  have HHF := hidden HF
  have HHB := hidden HB
  have HA := hidden hA
  -- behind hearFrame or hearBack
  have HEnd : Hid (∀ W1 w2 f cb, Below w.heap.size w W1 → W1.heap[cb]? = some (.cells #[.int .i64 now] 89 (0, 0)) → w.heap.size ≤ cb → Res Φ W1 w2 o0 n b N f → (f = 0 → w2.cell? ⟨cb, 0, none⟩ = some (.int .i64 now) ∧ (∃ v, w2.cell? ⟨b, 0, none⟩ = some v) ∧ w2.frozen? ⟨b, 0, none⟩ = false ∧ ∃ N', Φ f N' ∧ Done w (w2.setCell ⟨b, 0, none⟩ (.int .i64 now)) o n b { N' with nw := now }) ∧ (f ≠ 0 → Φ f N ∧ Below w.heap.size w w2)) := by
    refine hidden ?_
    intro W1 w2 f cb hB1 hbk hcb hRs
    refine ⟨fun h0 => ?_, fun h0 => ⟨(hRs.2 h0).1, hB1.trans ((hRs.2 h0).2.mono hB1.size)⟩⟩
    obtain ⟨N', hΦ, o2, P2, r1, r2, r3⟩ := hRs.1 h0
    have hcell : w2.heap[cb]? = some (.cells #[.int .i64 now] 89 (0, 0)) := lets_body hn r3 hbk (hnew _ hcb)
    have hfin := r1.setN hn now
    have hcf := chg_mine (r1.chgB 0 (.int .i64 now))
    refine ⟨by simp [World.cell?, hcell], ⟨_, r1.cells.1⟩, r1.free 0, N', hΦ, o2, P2, hfin, fun j hj => ?_, ?_⟩
    · rw [r2 j (by have := hB1.size; omega)]
      exact he0 j hj
    · exact (Chg.of_below hB1 o _).trans (r3.trans hcf r2) he0
  clear hN hnow hA ho0 he0 hnew hnw HF HB
  go_enter Tryz.func89, Tryz.ntmps89
  go_wp2_with fail
  refine CA.out.mono ?_
  rintro e w1 ⟨rfl, hb1⟩
  rw [show Gaps.errv 0 = Value.nilIface from rfl]
  obtain ⟨W1, hW1⟩ : ∃ W1, w1.alloc (.cells #[.int .i64 now] 89) = W1 := ⟨_, rfl⟩
  have hB1 : Below w.heap.size w W1 := by rw [← hW1]; exact hb1.alloc hb1.size _
  have hbk : W1.heap[w1.heap.size]? = some (.cells #[.int .i64 now] 89 (0, 0)) := by rw [← hW1]; exact heap_alloc_new w1 _
  have hcbs : w.heap.size ≤ w1.heap.size := hb1.size
  obtain ⟨cb, hcb⟩ : ∃ cb, w1.heap.size = cb := ⟨_, rfl⟩
  rw [hcb] at hbk hcbs
  have HX := hidden (And.intro hB1 (And.intro hbk hcbs))
  have HW1 := hidden hW1
  clear hb1 hW1 hB1 hbk hcbs CA c0
  go_upto_region 4 with fail
  first | rw [HW1.out] | skip
  clear hcb
  by_cases hm : m = 0
  · subst hm
    have hB0 : B.head? ≠ some 70 := by
      have := HA.out.2.1
      rw [List.length_eq_zero_iff.1 this]
      simp
    have CH := hidden (HHB.out W1 HX.out.1 hB0)
    clear HHF HHB HA hB0
    go_wp2_with fail
    refine CH.out.mono ?_
    rintro e w2 ⟨fl, rfl, hRs⟩
    have hE := HEnd.out W1 w2 fl cb HX.out.1 HX.out.2.1 HX.out.2.2 hRs
    have HE := hidden hE
    have q1 := cmp_ne fl
    have q2 := grd_ne fl
    clear hRs hE HEnd CH
    by_cases hf0 : fl = 0
    · have d0 : decide (fl = 0) = true := by simpa using hf0
      obtain ⟨ck, ⟨v, cc⟩, ff, hdone⟩ := HE.out.1 hf0
      have HD := hidden hdone
      have HF0 := hidden hf0
      clear hdone hf0 HE
      go_wp2_with fail
      go_ret
      exact ⟨fl, by rw [HF0.out]; rfl, fun _ => HD.out, fun h => absurd HF0.out h⟩
    · have d0 : decide (fl = 0) = false := by simpa using hf0
      have HF0 := hidden hf0
      clear hf0
      go_wp2_with fail
      go_ret
      exact ⟨fl, rfl, fun h => absurd h HF0.out, fun _ => HE.out.2 HF0.out⟩
  · have hm0 : 0 < m := by omega
    have hmz : (0 : Int) < (m : Int) := by omega
    have hmd : decide ((0 : Int) < (m : Int)) = true := by simpa using hm0
    have hmd2 : decide (0 < m) = true := by simpa using hm0
    obtain ⟨ba, oa, rfl⟩ := Pack.arg_at HA.out hm0
    obtain ⟨x, hx, hx2, cx⟩ := head_cell HA.out hm0
    have c70 := ext_cell HX.out.1 cx
    by_cases h70 : x = 70
    · subst h70
      have CH := hidden (HHF.out W1 HX.out.1 hx)
      clear HHF HHB HA hx hx2 cx hm
      go_wp2_with fail
      refine CH.out.mono ?_
      rintro e w2 ⟨fl, rfl, hRs⟩
      have hE := HEnd.out W1 w2 fl cb HX.out.1 HX.out.2.1 HX.out.2.2 hRs
      have HE := hidden hE
      have q1 := cmp_ne fl
      have q2 := grd_ne fl
      clear hRs hE HEnd CH
      by_cases hf0 : fl = 0
      · have d0 : decide (fl = 0) = true := by simpa using hf0
        obtain ⟨ck, ⟨v, cc⟩, ff, hdone⟩ := HE.out.1 hf0
        have HD := hidden hdone
        have HF0 := hidden hf0
        clear hdone hf0 HE
        go_wp2_with fail
        go_ret
        exact ⟨fl, by rw [HF0.out]; rfl, fun _ => HD.out, fun h => absurd HF0.out h⟩
      · have d0 : decide (fl = 0) = false := by simpa using hf0
        have HF0 := hidden hf0
        clear hf0
        go_wp2_with fail
        go_ret
        exact ⟨fl, rfl, fun h => absurd h HF0.out, fun _ => HE.out.2 HF0.out⟩
    · have CH := hidden (HHB.out W1 HX.out.1 (by rw [hx]; simpa using h70))
      have h71 : ((x : Int) == 70) = false := by
        have : (x : Int) ≠ 70 := by omega
        simpa using this
      clear HHF HHB HA hx hx2 cx hm h70
      go_wp2_with fail
      refine CH.out.mono ?_
      rintro e w2 ⟨fl, rfl, hRs⟩
      have hE := HEnd.out W1 w2 fl cb HX.out.1 HX.out.2.1 HX.out.2.2 hRs
      have HE := hidden hE
      have q1 := cmp_ne fl
      have q2 := grd_ne fl
      clear hRs hE HEnd CH
      by_cases hf0 : fl = 0
      · have d0 : decide (fl = 0) = true := by simpa using hf0
        obtain ⟨ck, ⟨v, cc⟩, ff, hdone⟩ := HE.out.1 hf0
        have HD := hidden hdone
        have HF0 := hidden hf0
        clear hdone hf0 HE
        go_wp2_with fail
        go_ret
        exact ⟨fl, by rw [HF0.out]; rfl, fun _ => HD.out, fun h => absurd HF0.out h⟩
      · have d0 : decide (fl = 0) = false := by simpa using hf0
        have HF0 := hidden hf0
        clear hf0
        go_wp2_with fail
        go_ret
        exact ⟨fl, rfl, fun h => absurd h HF0.out, fun _ => HE.out.2 HF0.out⟩
end Go.Proofs.YtpiamlgmadnepaaGreat.ND

