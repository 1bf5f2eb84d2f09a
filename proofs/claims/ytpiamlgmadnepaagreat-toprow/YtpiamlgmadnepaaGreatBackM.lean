/-
  What the function Read of package back returns, and what it makes. It changes nothing that was there.
-/
import Derived.Test.YtpiamlgmadnepaaGreatBackL
namespace Go.Proofs.YtpiamlgmadnepaaGreat.Back
open Go.ChangeShapes Go.WideShapes Go.ChangeAt Go.RowKit Go.Sort Go.Lib Go.Proofs.YtpiamlgmadnepaaGreat.BM Go.Proofs.YtpiamlgmadnepaaGreat.Mem
set_option linter.unusedVariables false

theorem short_gen (a : Option Addr) (n cap : Nat) (B : List Nat) (w : World) (h : Arg w a n B) : Calls Tryz.prog 182 #[.slice a n cap] w fun e w' => e = .returned (.bool (rshort B)) ∧ w' = w := by
  have hl := h.2.1
  match B, h, hl with
  | [], h, hl => exact short_one a n cap w (by simp at hl; omega)
  | [_], h, hl => exact short_one a n cap w (by simp at hl; omega)
  | k :: t :: r, h, hl =>
    obtain ⟨b, o, rfl⟩ := arg_at h (by simp at hl; omega)
    have c0 := arg_cell h 0 (by simp at hl; omega)
    obtain rfl : n = r.length + 2 := by simpa using hl.symm
    exact short_two b o cap k t r w (h.1.1 k (by simp)) h.2.2 (by simpa using c0)
def natI (A : List Nat) : List Int := A.map fun (c : Nat) => (c : Int)
theorem natI_get (A : List Nat) (i : Nat) : (natI A).getD i 0 = (A.getD i 0 : Nat) := by
  simp only [natI, List.getD_eq_getElem?_getD, List.getElem?_map]
  cases A[i]? <;> simp
theorem bytesOf_inj : ∀ {A B : List Nat}, (∀ c ∈ A, c < 256) → (∀ c ∈ B, c < 256) → bytesOf (natI A) = bytesOf (natI B) → A = B
  | [], [], _, _, _ => rfl
  | [], _ :: _, _, _, h => by simp [bytesOf, natI] at h
  | _ :: _, [], _, _, h => by simp [bytesOf, natI] at h
  | a :: A, b :: B, hA, hB, h => by
    have h' : UInt8.ofNat a = UInt8.ofNat b ∧ bytesOf (natI A) = bytesOf (natI B) := by simpa [bytesOf, natI] using h
    have ha := hA a (List.mem_cons_self ..)
    have hb := hB b (List.mem_cons_self ..)
    have e : a = b := by
      have := congrArg UInt8.toNat h'.1
      simpa [UInt8.toNat_ofNat', Nat.mod_eq_of_lt ha, Nat.mod_eq_of_lt hb] using this
    rw [e, bytesOf_inj (fun c hc => hA c (List.mem_cons_of_mem _ hc)) (fun c hc => hB c (List.mem_cons_of_mem _ hc)) h'.2]
theorem bytes_in {w : World} {a : Option Addr} {n : Nat} {A : List Nat} (h : Arg w a n A) : BytesIn w a n (natI A) := fun hn => by
  obtain ⟨b, o, e⟩ := arg_at h hn
  subst e
  exact ⟨b, o, rfl, fun i hi => by rw [natI_get]; exact arg_cell h i hi⟩
theorem equal_calls (a b : Option Addr) (n c m d : Nat) (A B : List Nat) (w : World) (hA : Arg w a n A) (hB : Arg w b m B) :
    Calls Tryz.prog 128 #[.slice a n c, .slice b m d] w fun e w' => e = .returned (.bool (decide (A = B))) ∧ w' = w := by
  have := Tryz.bytes_Equal_all a b n c m d (natI A) (natI B) w (by simp [natI, hA.2.1]) (by simp [natI, hB.2.1]) (bytes_in hA) (bytes_in hB)
  have e : (bytesOf (natI A) == bytesOf (natI B)) = decide (A = B) := by
    rw [Bool.eq_iff_iff, beq_iff_eq, decide_eq_true_eq]
    exact ⟨fun h => bytesOf_inj hA.1.1 hB.1.1 h, fun h => by rw [h]⟩
  rw [e] at this
  exact this

/-- what Read returns: what is said, and the error -/
def Reads (w w' : World) (B : List Nat) (k' t' : Int) (a' : Option Addr) (m c' : Nat) (u' : Int) : Prop :=
  (a' = none → m = 0 ∧ c' = 0) ∧ Below w.heap.size w w' ∧ (rfault B ≠ 0 → k' = 0 ∧ t' = 0 ∧ u' = 0 ∧ IArg w' a' m []) ∧
    (rfault B = 0 → ∃ k t r, B = k :: t :: r ∧ rshort B = false ∧ sfault k t r = 0 ∧ k' = (k : Nat) ∧ t' = (t : Nat) ∧ u' = saidU k r ∧ IArg w' a' m (saidL k r))

set_option maxHeartbeats 1000000 in
set_option maxRecDepth 100000 in
theorem read_short (a : Option Addr) (n cap : Nat) (B : List Nat) (w : World) (h : Arg w a n B) (hs : rshort B = true) :
    Calls Tryz.prog 149 #[.slice a n cap] w fun e w' => e = .returned (.tuple #[.agg #[.int .i64 0, .int .i64 0, .slice none 0 0, .int .i64 0], errv 8]) ∧ Below w.heap.size w w' := by
  have HS : Hid (∀ W, Below w.heap.size w W → Calls Tryz.prog 182 #[.slice a n cap] W fun e w' => e = .returned (.bool true) ∧ w' = W) := fun W hW => by
    have := short_gen a n cap B W (h.below hW)
    rw [hs] at this
    exact this
  clear h hs
  go_enter Tryz.func149, Tryz.ntmps149
  go_wp2_with fail
  refine (HS.out _ ((Below.refl _ _).alloc (Nat.le_refl _) _)).mono ?_
  rintro e w1 ⟨rfl, rfl⟩
  go_wp2_with fail
  refine bodyPost_ret (res_bk (g := w.heap.size) rfl rfl (BBox.new w 0 0 (.slice none 0 0) 0) ⟨_, _, _, rfl⟩) rfl ?_
  exact ⟨rfl, (Below.refl _ _).alloc (Nat.le_refl _) _⟩

set_option maxHeartbeats 4000000 in
set_option maxRecDepth 100000 in
theorem read_two (b o n cap k t : Nat) (r : List Nat) (w : World) (h : Arg w (some ⟨b, o, none⟩) n (k :: t :: r)) (hc : n ≤ cap) (hs : rshort (k :: t :: r) = false) :
    Calls Tryz.prog 149 #[.slice (some ⟨b, o, none⟩) n cap] w fun e w' => ∃ (k' t' : Int) (a' : Option Addr) (m c' : Nat) (u' : Int), e = .returned (.tuple #[.agg #[.int .i64 k', .int .i64 t', .slice a' m c', .int .i64 u'], errv (sfault k t r)]) ∧
      (a' = none → m = 0 ∧ c' = 0) ∧ Below w.heap.size w w' ∧ (sfault k t r ≠ 0 → k' = 0 ∧ t' = 0 ∧ u' = 0 ∧ IArg w' a' m []) ∧ (sfault k t r = 0 → k' = k ∧ t' = t ∧ u' = saidU k r ∧ IArg w' a' m (saidL k r)) := by
  have HS : Hid (∀ W, Below w.heap.size w W → Calls Tryz.prog 182 #[.slice (some ⟨b, o, none⟩) n cap] W fun e w' => e = .returned (.bool false) ∧ w' = W) := fun W hW => by
    have := short_gen _ n cap _ W (h.below hW)
    rw [hs] at this
    exact this
  have HP : Hid (∀ W, Below w.heap.size w W → Calls Tryz.prog 183 #[.slice (some ⟨b, o, none⟩) n cap] W _) := fun W hW => parse_gen b o n cap k t r W (h.below hW) hc hs
  have HF : Hid (sfault k t r = if gfault k r then 2 else if efault k t (saidL k r) (saidU k r) ≠ 0 ∨ ebytes k t (saidL k r) (saidU k r) ≠ k :: t :: r then 2 else 0) := rfl
  have HEB : Hid (efault k t (saidL k r) (saidU k r) = 0 → encB k t (saidL k r) (saidU k r) = ebytes k t (saidL k r) (saidU k r)) := fun hz => by rw [encB, if_pos hz]
  have HA := hidden h
  generalize sfault k t r = F at *
  generalize saidL k r = L at *
  generalize saidU k r = u at *
  have hB0 : Below w.heap.size w (w.alloc (.cells #[.int .i64 0, .int .i64 0, .slice none 0 0, .int .i64 0] 242)) := (Below.refl _ _).alloc (Nat.le_refl _) _
  have HB0 := hidden hB0
  clear h hs hB0
  obtain ⟨gf, hgf⟩ : ∃ g, gfault k r = g := ⟨_, rfl⟩
  rw [hgf] at HP HF
  cases gf with
  | true =>
    obtain rfl : F = 2 := by rw [HF.out]; rfl
    clear HF HEB
    go_enter Tryz.func149, Tryz.ntmps149
    go_wp2_with fail
    refine (HS.out _ HB0.out).mono ?_
    rintro e w1 ⟨rfl, rfl⟩
    go_wp2_with fail
    refine (HP.out _ HB0.out).mono ?_
    rintro e w1 ⟨k', t', a', m, c', u', rfl, _, _, _, hb1⟩
    have HX0 : Hid (BBox w1 w.heap.size 0 0 (.slice none 0 0) 0) := (BBox.new w 0 0 (.slice none 0 0) 0).below hb1 (by simp)
    have HB1 := hidden (HB0.out.trans (hb1.mono (by simp)))
    clear hb1
    have hlt0 := HX0.out.lt
    go_upto_region 4 with fail
    obtain ⟨w2, hw2⟩ : ∃ w2, w1.alloc (.cells #[.int .i64 k', .int .i64 t', .slice a' m c', .int .i64 u'] 242) = w2 := ⟨_, rfl⟩
    rw [hw2]
    have HY0 : Hid (BBox w2 w.heap.size 0 0 (.slice none 0 0) 0) := hw2 ▸ HX0.out.alloc _
    have HY1 : Hid (BBox w2 w1.heap.size k' t' (.slice a' m c') u') := hw2 ▸ BBox.new w1 k' t' (.slice a' m c') u'
    have HB2 : Hid (Below w.heap.size w w2) := hw2 ▸ HB1.out.alloc HB1.out.size _
    clear hw2 HX0
    obtain ⟨j0, j1, j2, j3⟩ := HY0.out.cells
    have f0 := HY0.out.free 0
    have f1 := HY0.out.free 1
    have f2 := HY0.out.free 2
    have f3 := HY0.out.free 3
    go_wp2_with fail
    refine bodyPost_ret (res_bk (g := w.heap.size) rfl rfl (HY0.out.put 0 0 (.slice none 0 0) 0) ⟨_, _, _, rfl⟩) rfl ?_
    exact ⟨0, 0, none, 0, 0, 0, rfl, fun _ => ⟨rfl, rfl⟩, (((HB2.out.setCell (Nat.le_refl _) _).setCell (Nat.le_refl _) _).setCell (Nat.le_refl _) _).setCell (Nat.le_refl _) _, fun _ => ⟨rfl, rfl, rfl, IArg.nil _ _⟩, fun h => absurd h (by decide)⟩
  | false =>
    go_enter Tryz.func149, Tryz.ntmps149
    go_wp2_with fail
    refine (HS.out _ HB0.out).mono ?_
    rintro e w1 ⟨rfl, rfl⟩
    go_wp2_with fail
    refine (HP.out _ HB0.out).mono ?_
    rintro e w1 ⟨k', t', a', m, c', u', rfl, hsd, hn', hfa, hb1⟩
    obtain ⟨rfl, rfl, rfl, hI⟩ := hsd (by first | rfl | trivial)
    have HX0 : Hid (BBox w1 w.heap.size 0 0 (.slice none 0 0) 0) := (BBox.new w 0 0 (.slice none 0 0) 0).below hb1 (by simp)
    have HB1 := hidden (HB0.out.trans (hb1.mono (by simp)))
    have HI1 := hidden hI
    have HN' := hidden hn'
    have HFA : Hid (∀ ad, a' = some ad → ad.block ≠ w.heap.size) := fun ad e => by have := hfa ad e; simp at this; omega
    clear hb1 hsd hI hn' hfa
    have hlt0 := HX0.out.lt
    go_upto_region 4 with fail
    obtain ⟨w2, hw2⟩ : ∃ w2, w1.alloc (.cells #[.int .i64 (k : Int), .int .i64 (t : Int), .slice a' m c', .int .i64 (u : Int)] 242) = w2 := ⟨_, rfl⟩
    rw [hw2]
    have HY0 : Hid (BBox w2 w.heap.size 0 0 (.slice none 0 0) 0) := hw2 ▸ HX0.out.alloc _
    have HY1 : Hid (BBox w2 w1.heap.size k t (.slice a' m c') (u)) := hw2 ▸ BBox.new w1 k t (.slice a' m c') (u)
    have HB2 : Hid (Below w.heap.size w w2) := hw2 ▸ HB1.out.alloc HB1.out.size _
    have HI2 : Hid (IArg w2 a' m (L)) := HI1.out.below (hw2 ▸ (Below.refl _ _).alloc (Nat.le_refl _) _)
    have hlt2 : w1.heap.size < w2.heap.size := HY1.out.lt
    have HEN := hidden (encode_gen k t a' m c' (u) (L) w2 HI2.out HN'.out)
    have cne := cmp_ne (efault k t (L) (u))
    have gne := grd_ne (efault k t (L) (u))
    clear hw2 HX0 HI1
    generalize encB k t L u = EB at *
    generalize ebytes k t L u = EC at *
    generalize efault k t L u = f at *
    obtain ⟨k0, k1, k2, k3⟩ := HY1.out.cells
    go_wp2_with fail
    refine HEN.out.mono ?_
    rintro e w3 ⟨a3, m3, c3, rfl, hA3, _, _, hb3⟩
    have HZ0 := hidden (HY0.out.below hb3 HY0.out.lt)
    have HZ1 := hidden (HY1.out.below hb3 HY1.out.lt)
    have HB3 := hidden (HB2.out.trans (hb3.mono HB2.out.size))
    have HI3 := hidden (HI2.out.below hb3)
    have HEQ := hidden (equal_calls a3 (some ⟨b, o, none⟩) m3 c3 n cap EB (k :: t :: r) w3 hA3 (HA.out.below (HB2.out.trans (hb3.mono HB2.out.size))))
    clear hA3 hb3 k0 k1 k2 k3 HEN HI2 HB2 HY0 HY1
    obtain ⟨z, hz⟩ : ∃ z, decide (f = 0) = z := ⟨_, rfl⟩
    rw [hz] at cne
    obtain ⟨q, hq⟩ : ∃ q, decide (EB = k :: t :: r) = q := ⟨_, rfl⟩
    rw [hq] at HEQ
    obtain ⟨j0, j1, j2, j3⟩ := HZ0.out.cells
    have f0 := HZ0.out.free 0
    have f1 := HZ0.out.free 1
    have f2 := HZ0.out.free 2
    have f3 := HZ0.out.free 3
    have HZ := hidden hz
    have HQ := hidden hq
    clear hz hq
    have hfin : ∀ W, Hid (Below w.heap.size w W) → Hid (Below w.heap.size w ((((W.setCell ⟨w.heap.size, 0, none⟩ (.int .i64 0)).setCell ⟨w.heap.size, 1, none⟩ (.int .i64 0)).setCell ⟨w.heap.size, 2, none⟩ (.slice none 0 0)).setCell ⟨w.heap.size, 3, none⟩ (.int .i64 0))) := fun W hW => (((hW.out.setCell (Nat.le_refl _) _).setCell (Nat.le_refl _) _).setCell (Nat.le_refl _) _).setCell (Nat.le_refl _) _
    have HFIN := hidden hfin
    clear hfin
    cases z with
    | false =>
      have hF : F = 2 := by
        rw [HF.out, if_neg (by decide), if_pos (.inl (of_decide_eq_false HZ.out))]
      subst hF
      go_wp2_with fail
      refine bodyPost_ret (res_bk (g := w.heap.size) rfl rfl (HZ0.out.put 0 0 (.slice none 0 0) 0) ⟨_, _, _, rfl⟩) rfl ?_
      exact ⟨0, 0, none, 0, 0, 0, rfl, fun _ => ⟨rfl, rfl⟩, HFIN.out _ HB3, fun _ => ⟨rfl, rfl, rfl, IArg.nil _ _⟩, fun h => absurd h (by decide)⟩
    | true =>
      cases q with
      | false =>
        have hF : F = 2 := by
          rw [HF.out, if_neg (by decide), if_pos (.inr (by rw [← HEB.out (of_decide_eq_true HZ.out)]; exact of_decide_eq_false HQ.out))]
        subst hF
        go_wp2_with fail
        refine HEQ.out.mono ?_
        rintro e w4 ⟨rfl, rfl⟩
        go_wp2_with fail
        refine bodyPost_ret (res_bk (g := w.heap.size) rfl rfl (HZ0.out.put 0 0 (.slice none 0 0) 0) ⟨_, _, _, rfl⟩) rfl ?_
        exact ⟨0, 0, none, 0, 0, 0, rfl, fun _ => ⟨rfl, rfl⟩, HFIN.out _ HB3, fun _ => ⟨rfl, rfl, rfl, IArg.nil _ _⟩, fun h => absurd h (by decide)⟩
      | true =>
        have hF : F = 0 := by
          rw [HF.out, if_neg (by decide), if_neg]
          rw [not_or, Decidable.not_not, Decidable.not_not]
          exact ⟨of_decide_eq_true HZ.out, by rw [← HEB.out (of_decide_eq_true HZ.out)]; exact of_decide_eq_true HQ.out⟩
        subst hF
        obtain ⟨k0, k1, k2, k3⟩ := HZ1.out.cells
        go_wp2_with fail
        refine HEQ.out.mono ?_
        rintro e w4 ⟨rfl, rfl⟩
        go_wp2_with fail
        refine bodyPost_ret (res_bk (g := w.heap.size) rfl rfl (HZ0.out.put k t (.slice a' m c') u) ⟨_, _, _, rfl⟩) rfl ?_
        exact ⟨k, t, a', m, c', u, rfl, HN'.out, (((HB3.out.setCell (Nat.le_refl _) _).setCell (Nat.le_refl _) _).setCell (Nat.le_refl _) _).setCell (Nat.le_refl _) _, rfl, rfl, rfl, (((HI3.out.set HFA.out _).set HFA.out _).set HFA.out _).set HFA.out _⟩

/-- Read, of whatever bytes -/
theorem read_gen (a : Option Addr) (n cap : Nat) (B : List Nat) (w : World) (h : Arg w a n B) (hc : n ≤ cap) :
    Calls Tryz.prog 149 #[.slice a n cap] w fun e w' => ∃ (k' t' : Int) (a' : Option Addr) (m c' : Nat) (u' : Int), e = .returned (.tuple #[.agg #[.int .i64 k', .int .i64 t', .slice a' m c', .int .i64 u'], errv (rfault B)]) ∧ Reads w w' B k' t' a' m c' u' := by
  by_cases hs : rshort B = true
  · have hf : rfault B = 8 := by unfold rfault; rw [if_pos hs]
    refine (read_short a n cap B w h hs).mono ?_
    rintro e w' ⟨rfl, hb⟩
    refine ⟨0, 0, none, 0, 0, 0, by rw [hf], fun _ => ⟨rfl, rfl⟩, hb, fun _ => ⟨rfl, rfl, rfl, IArg.nil _ _⟩, fun h0 => ?_⟩
    rw [hf] at h0
    omega
  · have hs' : rshort B = false := by simpa using hs
    match B, h, hs' with
    | [], _, h1 => simp [rshort] at h1
    | [_], _, h1 => simp [rshort] at h1
    | k :: t :: r, h, h1 =>
      have hf := rfault_two k t r h1
      obtain ⟨b, o, rfl⟩ := arg_at h (by have := h.2.1; simp at this; omega)
      refine (read_two b o n cap k t r w h hc h1).mono ?_
      rintro e w' ⟨k', t', a', m, c', u', rfl, hn, hb, h2, h3⟩
      refine ⟨k', t', a', m, c', u', by rw [hf], hn, hb, fun h0 => h2 (by rw [hf] at h0; exact h0), fun h0 => ?_⟩
      rw [hf] at h0
      obtain ⟨e1, e2, e3, e4⟩ := h3 h0
      exact ⟨k, t, r, rfl, h1, h0, e1, e2, e3, e4⟩
end Go.Proofs.YtpiamlgmadnepaaGreat.Back

