/-
  What the reference's function ReadBack returns of any bytes, and what it makes. It changes nothing that was there.
-/
import Derived.Test.YtjhfjkacfnccdabDoorRBB2
import Derived.Deep.RegionHeld3
import Derived.Deep.AppendLies
namespace Go.Proofs.YtjhfjkacfnccdabDoor.Back
open Go.ChangeShapes Go.WideShapes Go.ChangeAt Go.RowKit Go.Sort Go.Lib Go.Proofs.YtjhfjkacfnccdabDoor.BM Go.Proofs.YtjhfjkacfnccdabDoor.Mem
set_option linter.unusedVariables false

theorem str_conv {w : World} {a : Option Addr} {n cap : Nat} {L : List Nat} (h : Arg w a n L) : (convert 22 9 (.slice a n cap)).run Tryd.prog w = .ok (.string (str L)) w := by
  cases L with
  | cons c L =>
    obtain ⟨b, o, e, _⟩ := h.1.2 0 (by simp)
    exact conv_arg Tryd.underlying22 Tryd.underlying5 Tryd.underlying9 h (fun ad h => by rw [e] at h; exact ⟨b, o, (Option.some.inj h).symm⟩)
  | nil =>
    have hn : n = 0 := by have := h.2.1; simpa using this.symm
    subst hn
    cases a with
    | none => exact conv_arg Tryd.underlying22 Tryd.underlying5 Tryd.underlying9 h (fun ad h => by simp at h)
    | some ad =>
      rw [run_convert_bytes_string w 22 9 5 _ 0 cap Tryd.underlying22 Tryd.underlying5 Tryd.underlying9]
      have hl : (loadCells ad 0).run Tryd.prog w = .ok #[] w := run_loadCells_list (P := Tryd.prog) w ad [] (fun j v hj => by simp at hj)
      simp [Conv.bytesToString, str, strOfNums, hl]
      rfl
theorem str_inj {A B : List Nat} (hA : ∀ c ∈ A, c < 256) (hB : ∀ c ∈ B, c < 256) : ((str A).toList = (str B).toList) ↔ A = B := by
  constructor
  · intro h1
    have e : ∀ L : List Nat, (str L).toList = bytesOf (natI L) := fun L => strOfNums_toList _
    rw [e, e] at h1
    exact bytesOf_inj hA hB h1
  · intro h; rw [h]
theorem prsB_len : ∀ (s : Nat) (r : List Nat), r.length ≤ s → (prsB r).length = r.length / 4
  | 0, r, h => by rw [few (by omega)]; simp; omega
  | s + 1, r, h => by
    by_cases h4 : 4 ≤ r.length
    · obtain ⟨x0, x1, x2, x3, R, rfl⟩ := four h4
      have := prsB_len s R (by simp at h; omega)
      rw [prsB_app, List.length_cons, this]
      simp only [List.length_cons]
      omega
    · rw [few (by omega)]
      simp
      omega
theorem gfault_one (r : List Nat) (hmod : r.length % 4 = 0) : gfault 1 r = decide (nfault (prsB r) ≠ 0) := by
  unfold gfault
  by_cases h : 800 < r.length
  · have : nfault (prsB r) = 4 := by
      unfold nfault
      rw [if_pos]
      rw [prsB_len _ r (Nat.le_refl _)]
      omega
    simp [h, this]
  · simp [h]
theorem two_boxes (w : World) (k t : Int) : BBox (((w.alloc (.cells #[.int .i64 0, .int .i64 0, .slice none 0 0, .int .i64 0] 56)).alloc (.cells #[.int .i64 k, .int .i64 t, .slice none 0 0, .int .i64 0] 56)).drew) (w.heap.size + 1) k t (.slice none 0 0) 0 := by
  have := BBox.new (w.alloc (.cells #[.int .i64 0, .int .i64 0, .slice none 0 0, .int .i64 0] 56)) k t (.slice none 0 0) 0
  have h2 : BBox ((w.alloc (.cells #[.int .i64 0, .int .i64 0, .slice none 0 0, .int .i64 0] 56)).alloc (.cells #[.int .i64 k, .int .i64 t, .slice none 0 0, .int .i64 0] 56)) (w.heap.size + 1) k t (.slice none 0 0) 0 := by simpa using this
  exact h2.drewN 1

set_option maxHeartbeats 4000000 in
set_option maxRecDepth 100000 in
theorem rrb_short (a : Option Addr) (n cap : Nat) (B : List Nat) (w : World) (h : Arg w a n B) (hs : rshort B = true) :
    Calls Tryd.prog 31 #[.slice a n cap] w fun e w' => e = .returned (.tuple #[.agg #[.int .i64 0, .int .i64 0, .slice none 0 0, .int .i64 0], .int .i64 8]) ∧ Below w.heap.size w w' := by
  have hl := h.2.1
  have hmax := h.2.2
  by_cases h2 : n < 2
  · have d : decide ((n : Int) < 2) = true := by simp; omega
    clear h hs
    go_enter Tryd.func31, Tryd.ntmps31
    go_wp2_with fail
    refine bodyPost_ret (res_bk (g := w.heap.size) rfl rfl (BBox.new w 0 0 (.slice none 0 0) 0) ⟨_, _, _, rfl⟩) rfl ?_
    exact ⟨rfl, (Below.refl _ _).alloc (Nat.le_refl _) _⟩
  · have d : decide ((n : Int) < 2) = false := by simp; omega
    match B, h, hs, hl with
    | [], _, _, hl => simp at hl; omega
    | [_], _, _, hl => simp at hl; omega
    | k :: t :: r, h, hs, hl =>
      have hn : n = r.length + 2 := by simpa using hl.symm
      obtain ⟨b, o, rfl⟩ := arg_at h (by omega)
      have hk := h.1.1 k (by simp)
      have ht := h.1.1 t (by simp)
      have c0 := arg_cell h 0 (by omega)
      have c1 := arg_cell h 1 (by omega)
      have hlt := World.block_lt_of_cell? w _ c0
      simp only [List.getD_cons_zero, List.getD_cons_succ, Nat.add_zero] at c0 c1
      have d0 : ∀ O, (w.alloc O).cell? ⟨b, o, none⟩ = some (.int .u8 (k : Int)) := fun O => (((Below.refl _ _).alloc (Nat.le_refl _) O).cell (p := ⟨b, o, none⟩) hlt).trans c0
      have d1 : ∀ O, (w.alloc O).cell? ⟨b, o + 1, none⟩ = some (.int .u8 (t : Int)) := fun O => (((Below.refl _ _).alloc (Nat.le_refl _) O).cell (p := ⟨b, o + 1, none⟩) hlt).trans c1
      have hwk : IntKind.i64.wrap (k : Int) = (k : Int) := by rw [IntKind.wrap_i64]; omega
      have hwt : IntKind.i64.wrap (t : Int) = (t : Int) := by rw [IntKind.wrap_i64]; omega
      have n1 : (1 : Int) < (n : Int) := by omega
      have n0 : (0 : Int) < (n : Int) := by omega
      have hfin : Below w.heap.size w (((w.alloc (.cells #[.int .i64 0, .int .i64 0, .slice none 0 0, .int .i64 0] 56)).alloc (.cells #[.int .i64 (k : Int), .int .i64 (t : Int), .slice none 0 0, .int .i64 0] 56)).drew) := (((Below.refl w.heap.size w).alloc (Nat.le_refl _) _).alloc (by simp) _).drew
      have HFIN := hidden hfin
      have hcase : (k = 1 ∧ (n < 6 ∨ n % 4 ≠ 2)) ∨ (k = 2 ∧ n < 3) ∨ (k = 3 ∧ n < 6) := by
        simp only [rshort] at hs
        split at hs
        · rename_i e
          refine .inl ⟨e, ?_⟩
          rw [Bool.or_eq_true, decide_eq_true_eq, decide_eq_true_eq] at hs
          omega
        · split at hs
          · rename_i e; refine .inr (.inl ⟨e, ?_⟩); rw [decide_eq_true_eq] at hs; omega
          · split at hs
            · rename_i e; refine .inr (.inr ⟨e, ?_⟩); rw [decide_eq_true_eq] at hs; omega
            · simp at hs
      clear h hs c0 c1 hfin hl hn
      rcases hcase with ⟨rfl, hc⟩ | ⟨rfl, hc⟩ | ⟨rfl, hc⟩
      · have hrem : ((n : Int)).tmod 4 = ((n % 4 : Nat) : Int) := rfl
        by_cases h6 : n < 6
        · have d6 : decide ((n : Int) < 6) = true := by simp; omega
          clear hc h6
          go_enter Tryd.func31, Tryd.ntmps31
          go_wp2_with fail
          go_region
          go_wp2_with fail
          refine bodyPost_ret (res_bk (g := w.heap.size) rfl rfl ((BBox.new w 0 0 (.slice none 0 0) 0).alloc _) ⟨_, _, _, rfl⟩) rfl ?_
          exact ⟨rfl, HFIN.out⟩
        · have d6 : decide ((n : Int) < 6) = false := by simp; omega
          have hne : (((n % 4 : Nat) : Int) != 2) = true := by rw [bne_iff_ne]; omega
          generalize n % 4 = r4 at *
          clear hc h6
          go_enter Tryd.func31, Tryd.ntmps31
          go_wp2_with fail
          go_region
          go_wp2_with fail
          refine bodyPost_ret (res_bk (g := w.heap.size) rfl rfl ((BBox.new w 0 0 (.slice none 0 0) 0).alloc _) ⟨_, _, _, rfl⟩) rfl ?_
          exact ⟨rfl, HFIN.out⟩
      · have d6 : decide ((n : Int) < 3) = true := by simp; omega
        clear hc
        go_enter Tryd.func31, Tryd.ntmps31
        go_wp2_with fail
        go_region
        go_wp2_with fail
        refine bodyPost_ret (res_bk (g := w.heap.size) rfl rfl ((BBox.new w 0 0 (.slice none 0 0) 0).alloc _) ⟨_, _, _, rfl⟩) rfl ?_
        exact ⟨rfl, HFIN.out⟩
      · have d6 : decide ((n : Int) < 6) = true := by simp; omega
        clear hc
        go_enter Tryd.func31, Tryd.ntmps31
        go_wp2_with fail
        go_region
        go_wp2_with fail
        refine bodyPost_ret (res_bk (g := w.heap.size) rfl rfl ((BBox.new w 0 0 (.slice none 0 0) 0).alloc _) ⟨_, _, _, rfl⟩) rfl ?_
        exact ⟨rfl, HFIN.out⟩
set_option maxHeartbeats 8000000 in
set_option maxRecDepth 100000 in
theorem rrb_other (b o n cap k t : Nat) (r : List Nat) (w : World) (h : Arg w (some ⟨b, o, none⟩) n (k :: t :: r)) (hc : n ≤ cap) (h1 : k ≠ 1) (h2 : k ≠ 2) (h3 : k ≠ 3) :
    Calls Tryd.prog 31 #[.slice (some ⟨b, o, none⟩) n cap] w fun e w' => ∃ (k' t' : Int) (a' : Option Addr) (m c' : Nat) (u' : Int), e = .returned (.tuple #[.agg #[.int .i64 k', .int .i64 t', .slice a' m c', .int .i64 u'], .int .i64 (sfault k t r : Int)]) ∧
      (a' = none → m = 0 ∧ c' = 0) ∧ Below w.heap.size w w' ∧ (sfault k t r ≠ 0 → k' = 0 ∧ t' = 0 ∧ u' = 0 ∧ IArg w' a' m []) ∧ (sfault k t r = 0 → k' = (k : Nat) ∧ t' = t ∧ u' = saidU k r ∧ IArg w' a' m (saidL k r)) := by
  have hn : n = r.length + 2 := by have := h.2.1; simpa using this.symm
  have hmax := h.2.2
  have hk := h.1.1 k (by simp)
  have ht := h.1.1 t (by simp)
  have c0 := arg_cell h 0 (by omega)
  have c1 := arg_cell h 1 (by omega)
  have hlt := World.block_lt_of_cell? w _ c0
  simp only [List.getD_cons_zero, List.getD_cons_succ, Nat.add_zero] at c0 c1
  have d0 : ∀ O, (w.alloc O).cell? ⟨b, o, none⟩ = some (.int .u8 (k : Nat)) := fun O => (((Below.refl _ _).alloc (Nat.le_refl _) O).cell (p := ⟨b, o, none⟩) hlt).trans c0
  have d1 : ∀ O, (w.alloc O).cell? ⟨b, o + 1, none⟩ = some (.int .u8 (t : Int)) := fun O => (((Below.refl _ _).alloc (Nat.le_refl _) O).cell (p := ⟨b, o + 1, none⟩) hlt).trans c1
  have hwt : IntKind.i64.wrap (t : Int) = (t : Int) := by rw [IntKind.wrap_i64]; omega
  have n1 : (1 : Int) < (n : Int) := by omega
  have n0 : (0 : Int) < (n : Int) := by omega
  have dd2 : decide ((n : Int) < 2) = false := by simp; omega
  have HB1 : Hid (Below w.heap.size w (((w.alloc (.cells #[.int .i64 0, .int .i64 0, .slice none 0 0, .int .i64 0] 56)).alloc (.cells #[.int .i64 ((k : Nat) : Int), .int .i64 (t : Int), .slice none 0 0, .int .i64 0] 56)).drew)) := (((Below.refl w.heap.size w).alloc (Nat.le_refl _) _).alloc (by simp) _).drew
  have HX0 : Hid (BBox (((w.alloc (.cells #[.int .i64 0, .int .i64 0, .slice none 0 0, .int .i64 0] 56)).alloc (.cells #[.int .i64 ((k : Nat) : Int), .int .i64 (t : Int), .slice none 0 0, .int .i64 0] 56)).drew) w.heap.size 0 0 (.slice none 0 0) 0) := ((BBox.new w 0 0 (.slice none 0 0) 0).alloc _).drewN 1
  have HX1 := hidden (two_boxes w ((k : Nat) : Int) t)
  have HA := hidden h
  have HF : Hid (sfault k t r = if gfault k r then 2 else if efault k t (saidL k r) (saidU k r) ≠ 0 ∨ ebytes k t (saidL k r) (saidU k r) ≠ k :: t :: r then 2 else 0) := rfl
  have HEB : Hid (efault k t (saidL k r) (saidU k r) = 0 → encB k t (saidL k r) (saidU k r) = ebytes k t (saidL k r) (saidU k r)) := fun hz => by rw [encB, if_pos hz]
  generalize sfault k t r = F at *
  have hg : gfault k r = false := by simp [gfault, h1]
  have hsl : saidL k r = [] := by simp [saidL, h1]
  have hsu : saidU k r = 0 := by simp [saidU, h2, h3]
  rw [hg] at HF
  rw [hsl, hsu] at HF HEB ⊢
  have hwk : IntKind.i64.wrap (k : Int) = (k : Int) := by rw [IntKind.wrap_i64]; omega
  have e1 : ((k : Int) == 1) = false := by rw [beq_eq_false_iff_ne]; omega
  have e2 : ((k : Int) == 2) = false := by rw [beq_eq_false_iff_ne]; omega
  have e3 : ((k : Int) == 3) = false := by rw [beq_eq_false_iff_ne]; omega
  rw [show ((0 : Nat) : Int) = 0 from rfl] at HF HEB ⊢
  clear h hc hn h1 h2 h3 c0 c1 hg hsl hsu
  go_enter Tryd.func31, Tryd.ntmps31
  go_wp2_with fail
  go_region
  go_upto_region 25 with fail
  obtain ⟨wx, hwx⟩ : ∃ x, ((w.alloc (.cells #[.int .i64 0, .int .i64 0, .slice none 0 0, .int .i64 0] 56)).alloc (.cells #[.int .i64 (k : Int), .int .i64 (t : Int), .slice none 0 0, .int .i64 0] 56)).drew = x := ⟨_, rfl⟩
  rw [hwx] at HB1 HX0 HX1 ⊢
  clear hwx
  have HB := HB1
  have HZ0 := HX0
  have HY := HX1
  have HI := hidden (IArg.nil wx none)
  have HN' : Hid ((none : Option Addr) = none → 0 = 0 ∧ 0 = 0) := fun _ => ⟨rfl, rfl⟩
  have HFA : Hid (∀ ad, (none : Option Addr) = some ad → ad.block ≠ w.heap.size) := fun ad e => by simp at e
  have HRBX := hidden (rbb_gen (k : Nat) t none 0 0 (0 : Int) [] wx HI.out HN'.out)
  obtain ⟨k0, k1, k2, k3⟩ := HY.out.cells
  have hly := HY.out.lt
  go_wp2_with fail
  refine HRBX.out.mono ?_
  rintro e w3 ⟨a3, m3, c3, rfl, hA3, _, _, hb3⟩
  have HZ3 := hidden (HZ0.out.below hb3 HZ0.out.lt)
  have HY3 := hidden (HY.out.below hb3 hly)
  have HB3 := hidden (HB.out.trans (hb3.mono HB.out.size))
  have HI3 := hidden (HI.out.below hb3)
  have v1 := str_conv (cap := c3) hA3
  have v2 := str_conv (cap := cap) (HA.out.below HB3.out)
  have HSI : Hid (((str (encB (k : Nat) t [] (0 : Int))).toList = (str (k :: t :: r)).toList) ↔ encB (k : Nat) t [] (0 : Int) = k :: t :: r) := str_inj hA3.1.1 HA.out.1.1
  clear hA3 hb3 k0 k1 k2 k3 HRBX
  obtain ⟨EB, hEB⟩ : ∃ zq, encB (k : Nat) t [] (0 : Int) = zq := ⟨_, rfl⟩
  rw [hEB] at v1 HSI
  have HEBE := hidden hEB
  clear hEB
  obtain ⟨f, hf⟩ : ∃ zq, efault (k : Nat) t [] (0 : Int) = zq := ⟨_, rfl⟩
  rw [hf]
  have HFE := hidden hf
  clear hf
  obtain ⟨j0, j1, j2, j3⟩ := HZ3.out.cells
  have f0 := HZ3.out.free 0
  have f1 := HZ3.out.free 1
  have f2 := HZ3.out.free 2
  have f3 := HZ3.out.free 3
  obtain ⟨S1, hS1⟩ : ∃ zq, str EB = zq := ⟨_, rfl⟩
  obtain ⟨S2, hS2⟩ : ∃ zq, str (k :: t :: r) = zq := ⟨_, rfl⟩
  rw [hS1] at v1 HSI
  rw [hS2] at v2 HSI
  clear hS1 hS2
  by_cases hz : f = 0
  · have hne0 : ((f : Int) != 0) = false := by rw [hz]; rfl
    have HZF := hidden hz
    clear hz
    by_cases hq : S1.toList = S2.toList
    · have hq1 : (S1.toList == S2.toList) = true := by rw [hq]; exact beq_self_eq_true _
      have hF : F = 0 := by
        rw [HF.out, if_neg (by decide), if_neg]
        rw [not_or, Decidable.not_not, Decidable.not_not]
        refine ⟨HFE.out.trans HZF.out, ?_⟩
        rw [← HEB.out (HFE.out.trans HZF.out), HEBE.out]
        exact HSI.out.1 hq
      subst hF
      clear hq
      obtain ⟨k0, k1, k2, k3⟩ := HY3.out.cells
      go_wp2_with fail
      refine bodyPost_ret (res_bk (g := w.heap.size) rfl rfl (HZ3.out.put (k : Nat) t (.slice none 0 0) (0 : Int)) ⟨_, _, _, rfl⟩) rfl ?_
      exact ⟨(k : Nat), t, none, 0, 0, (0 : Int), rfl, fun _ => ⟨rfl, rfl⟩, (((HB3.out.setCell (Nat.le_refl _) _).setCell (Nat.le_refl _) _).setCell (Nat.le_refl _) _).setCell (Nat.le_refl _) _, rfl, rfl, rfl, (((HI3.out.set HFA.out _).set HFA.out _).set HFA.out _).set HFA.out _⟩
    · have hF : F = 2 := by
        rw [HF.out, if_neg (by decide), if_pos (.inr (by rw [← HEB.out (HFE.out.trans HZF.out), HEBE.out]; exact fun h => hq (HSI.out.2 h)))]
      subst hF
      have hq1 : (S1.toList == S2.toList) = false := by rw [beq_eq_false_iff_ne]; exact hq
      clear hq
      go_wp2_with fail
      refine bodyPost_ret (res_bk (g := w.heap.size) rfl rfl (HZ3.out.put 0 0 (.slice none 0 0) 0) ⟨_, _, _, rfl⟩) rfl ?_
      exact ⟨0, 0, none, 0, 0, 0, rfl, fun _ => ⟨rfl, rfl⟩, (((HB3.out.setCell (Nat.le_refl _) _).setCell (Nat.le_refl _) _).setCell (Nat.le_refl _) _).setCell (Nat.le_refl _) _, fun _ => ⟨rfl, rfl, rfl, IArg.nil _ _⟩, fun h => absurd h (by decide)⟩
  · have hne0 : ((f : Int) != 0) = true := by rw [bne_iff_ne]; omega
    have hF : F = 2 := by
      rw [HF.out, if_neg (by decide), if_pos (.inl (by rw [HFE.out]; exact hz))]
    subst hF
    clear hz
    go_wp2_with fail
    refine bodyPost_ret (res_bk (g := w.heap.size) rfl rfl (HZ3.out.put 0 0 (.slice none 0 0) 0) ⟨_, _, _, rfl⟩) rfl ?_
    exact ⟨0, 0, none, 0, 0, 0, rfl, fun _ => ⟨rfl, rfl⟩, (((HB3.out.setCell (Nat.le_refl _) _).setCell (Nat.le_refl _) _).setCell (Nat.le_refl _) _).setCell (Nat.le_refl _) _, fun _ => ⟨rfl, rfl, rfl, IArg.nil _ _⟩, fun h => absurd h (by decide)⟩

set_option maxHeartbeats 8000000 in
set_option maxRecDepth 100000 in
theorem rrb_key (b o n cap t : Nat) (r : List Nat) (w : World) (h : Arg w (some ⟨b, o, none⟩) n (2 :: t :: r)) (hc : n ≤ cap) (hr : 1 ≤ r.length) :
    Calls Tryd.prog 31 #[.slice (some ⟨b, o, none⟩) n cap] w fun e w' => ∃ (k' t' : Int) (a' : Option Addr) (m c' : Nat) (u' : Int), e = .returned (.tuple #[.agg #[.int .i64 k', .int .i64 t', .slice a' m c', .int .i64 u'], .int .i64 (sfault 2 t r : Int)]) ∧
      (a' = none → m = 0 ∧ c' = 0) ∧ Below w.heap.size w w' ∧ (sfault 2 t r ≠ 0 → k' = 0 ∧ t' = 0 ∧ u' = 0 ∧ IArg w' a' m []) ∧ (sfault 2 t r = 0 → k' = (2 : Nat) ∧ t' = t ∧ u' = saidU 2 r ∧ IArg w' a' m (saidL 2 r)) := by
  have hn : n = r.length + 2 := by have := h.2.1; simpa using this.symm
  have hmax := h.2.2
  have hk := h.1.1 2 (by simp)
  have ht := h.1.1 t (by simp)
  have c0 := arg_cell h 0 (by omega)
  have c1 := arg_cell h 1 (by omega)
  have hlt := World.block_lt_of_cell? w _ c0
  simp only [List.getD_cons_zero, List.getD_cons_succ, Nat.add_zero] at c0 c1
  have d0 : ∀ O, (w.alloc O).cell? ⟨b, o, none⟩ = some (.int .u8 (2 : Nat)) := fun O => (((Below.refl _ _).alloc (Nat.le_refl _) O).cell (p := ⟨b, o, none⟩) hlt).trans c0
  have d1 : ∀ O, (w.alloc O).cell? ⟨b, o + 1, none⟩ = some (.int .u8 (t : Int)) := fun O => (((Below.refl _ _).alloc (Nat.le_refl _) O).cell (p := ⟨b, o + 1, none⟩) hlt).trans c1
  have hwt : IntKind.i64.wrap (t : Int) = (t : Int) := by rw [IntKind.wrap_i64]; omega
  have n1 : (1 : Int) < (n : Int) := by omega
  have n0 : (0 : Int) < (n : Int) := by omega
  have dd2 : decide ((n : Int) < 2) = false := by simp; omega
  have HB1 : Hid (Below w.heap.size w (((w.alloc (.cells #[.int .i64 0, .int .i64 0, .slice none 0 0, .int .i64 0] 56)).alloc (.cells #[.int .i64 ((2 : Nat) : Int), .int .i64 (t : Int), .slice none 0 0, .int .i64 0] 56)).drew)) := (((Below.refl w.heap.size w).alloc (Nat.le_refl _) _).alloc (by simp) _).drew
  have HX0 : Hid (BBox (((w.alloc (.cells #[.int .i64 0, .int .i64 0, .slice none 0 0, .int .i64 0] 56)).alloc (.cells #[.int .i64 ((2 : Nat) : Int), .int .i64 (t : Int), .slice none 0 0, .int .i64 0] 56)).drew) w.heap.size 0 0 (.slice none 0 0) 0) := ((BBox.new w 0 0 (.slice none 0 0) 0).alloc _).drewN 1
  have HX1 := hidden (two_boxes w ((2 : Nat) : Int) t)
  have HA := hidden h
  have HF : Hid (sfault 2 t r = if gfault 2 r then 2 else if efault 2 t (saidL 2 r) (saidU 2 r) ≠ 0 ∨ ebytes 2 t (saidL 2 r) (saidU 2 r) ≠ 2 :: t :: r then 2 else 0) := rfl
  have HEB : Hid (efault 2 t (saidL 2 r) (saidU 2 r) = 0 → encB 2 t (saidL 2 r) (saidU 2 r) = ebytes 2 t (saidL 2 r) (saidU 2 r)) := fun hz => by rw [encB, if_pos hz]
  generalize sfault 2 t r = F at *
  have hg : gfault 2 r = false := by simp [gfault]
  have hsl : saidL 2 r = [] := by simp [saidL]
  obtain ⟨x, r', rfl⟩ : ∃ x r', r = x :: r' := by
    match r, hr with
    | x :: r', _ => exact ⟨x, r', rfl⟩
  have hx := h.1.1 x (by simp)
  have hsu : saidU 2 (x :: r') = x := by simp [saidU, val]
  rw [hg] at HF
  rw [hsl, hsu] at HF HEB ⊢
  have c2 := arg_cell h 2 (by simp at hn; omega)
  simp only [List.getD_cons_zero, List.getD_cons_succ] at c2
  have d2 : ∀ O1 O2, ((w.alloc O1).alloc O2).cell? ⟨b, o + 2, none⟩ = some (.int .u8 (x : Int)) := fun O1 O2 => ((((Below.refl w.heap.size w).alloc (Nat.le_refl _) O1).alloc (by simp) O2).cell (p := ⟨b, o + 2, none⟩) hlt).trans c2
  have hwx : IntKind.i64.wrap (x : Int) = (x : Int) := by rw [IntKind.wrap_i64]; omega
  have n2 : (2 : Int) < (n : Int) := by simp at hn; omega
  have n3 : decide ((n : Int) < 3) = false := by simp at hn; simp; omega
  clear h hc hn hr c0 c1 c2 hg hsl hsu
  go_enter Tryd.func31, Tryd.ntmps31
  go_wp2_with fail
  go_region
  go_upto_region 25 with fail
  have HY : Hid (BBox (((w.alloc (.cells #[.int .i64 0, .int .i64 0, .slice none 0 0, .int .i64 0] 56)).alloc (.cells #[.int .i64 ((2 : Nat) : Int), .int .i64 (t : Int), .slice none 0 0, .int .i64 (x : Int)] 56)).drew) (w.heap.size + 1) 2 t (.slice none 0 0) x) := by
    have := BBox.new (w.alloc (.cells #[.int .i64 0, .int .i64 0, .slice none 0 0, .int .i64 0] 56)) 2 t (.slice none 0 0) x
    have h2 : BBox ((w.alloc (.cells #[.int .i64 0, .int .i64 0, .slice none 0 0, .int .i64 0] 56)).alloc (.cells #[.int .i64 2, .int .i64 (t : Int), .slice none 0 0, .int .i64 (x : Int)] 56)) (w.heap.size + 1) 2 t (.slice none 0 0) x := by simpa using this
    exact h2.drewN 1
  have HZ0 : Hid (BBox (((w.alloc (.cells #[.int .i64 0, .int .i64 0, .slice none 0 0, .int .i64 0] 56)).alloc (.cells #[.int .i64 ((2 : Nat) : Int), .int .i64 (t : Int), .slice none 0 0, .int .i64 (x : Int)] 56)).drew) w.heap.size 0 0 (.slice none 0 0) 0) := ((BBox.new w 0 0 (.slice none 0 0) 0).alloc _).drewN 1
  have HB : Hid (Below w.heap.size w (((w.alloc (.cells #[.int .i64 0, .int .i64 0, .slice none 0 0, .int .i64 0] 56)).alloc (.cells #[.int .i64 ((2 : Nat) : Int), .int .i64 (t : Int), .slice none 0 0, .int .i64 (x : Int)] 56)).drew)) := (((Below.refl w.heap.size w).alloc (Nat.le_refl _) _).alloc (by simp) _).drew
  obtain ⟨wx, hwx2⟩ : ∃ z, ((w.alloc (.cells #[.int .i64 0, .int .i64 0, .slice none 0 0, .int .i64 0] 56)).alloc (.cells #[.int .i64 ((2 : Nat) : Int), .int .i64 (t : Int), .slice none 0 0, .int .i64 (x : Int)] 56)).drew = z := ⟨_, rfl⟩
  rw [hwx2] at HB HZ0 HY
  first | rw [hwx2] | (have hwx3 : ((w.alloc (.cells #[.int .i64 0, .int .i64 0, .slice none 0 0, .int .i64 0] 56)).alloc (.cells #[.int .i64 2, .int .i64 (t : Int), .slice none 0 0, .int .i64 (x : Int)] 56)).drew = wx := hwx2; rw [hwx3]; clear hwx3)
  clear hwx2 HB1 HX0 HX1
  have HI := hidden (IArg.nil wx none)
  have HN' : Hid ((none : Option Addr) = none → 0 = 0 ∧ 0 = 0) := fun _ => ⟨rfl, rfl⟩
  have HFA : Hid (∀ ad, (none : Option Addr) = some ad → ad.block ≠ w.heap.size) := fun ad e => by simp at e
  have HRBX := hidden (rbb_gen 2 t none 0 0 (x : Int) [] wx HI.out HN'.out)
  obtain ⟨k0, k1, k2, k3⟩ := HY.out.cells
  have hly := HY.out.lt
  go_wp2_with fail
  refine HRBX.out.mono ?_
  rintro e w3 ⟨a3, m3, c3, rfl, hA3, _, _, hb3⟩
  have HZ3 := hidden (HZ0.out.below hb3 HZ0.out.lt)
  have HY3 := hidden (HY.out.below hb3 hly)
  have HB3 := hidden (HB.out.trans (hb3.mono HB.out.size))
  have HI3 := hidden (HI.out.below hb3)
  have v1 := str_conv (cap := c3) hA3
  have v2 := str_conv (cap := cap) (HA.out.below HB3.out)
  have HSI : Hid (((str (encB 2 t [] (x : Int))).toList = (str (2 :: t :: x :: r')).toList) ↔ encB 2 t [] (x : Int) = 2 :: t :: x :: r') := str_inj hA3.1.1 HA.out.1.1
  clear hA3 hb3 k0 k1 k2 k3 HRBX
  obtain ⟨EB, hEB⟩ : ∃ zq, encB 2 t [] (x : Int) = zq := ⟨_, rfl⟩
  rw [hEB] at v1 HSI
  have HEBE := hidden hEB
  clear hEB
  obtain ⟨f, hf⟩ : ∃ zq, efault 2 t [] (x : Int) = zq := ⟨_, rfl⟩
  rw [hf]
  have HFE := hidden hf
  clear hf
  obtain ⟨j0, j1, j2, j3⟩ := HZ3.out.cells
  have f0 := HZ3.out.free 0
  have f1 := HZ3.out.free 1
  have f2 := HZ3.out.free 2
  have f3 := HZ3.out.free 3
  obtain ⟨S1, hS1⟩ : ∃ zq, str EB = zq := ⟨_, rfl⟩
  obtain ⟨S2, hS2⟩ : ∃ zq, str (2 :: t :: x :: r') = zq := ⟨_, rfl⟩
  rw [hS1] at v1 HSI
  rw [hS2] at v2 HSI
  clear hS1 hS2
  by_cases hz : f = 0
  · have hne0 : ((f : Int) != 0) = false := by rw [hz]; rfl
    have HZF := hidden hz
    clear hz
    by_cases hq : S1.toList = S2.toList
    · have hq1 : (S1.toList == S2.toList) = true := by rw [hq]; exact beq_self_eq_true _
      have hF : F = 0 := by
        rw [HF.out, if_neg (by decide), if_neg]
        rw [not_or, Decidable.not_not, Decidable.not_not]
        refine ⟨HFE.out.trans HZF.out, ?_⟩
        rw [← HEB.out (HFE.out.trans HZF.out), HEBE.out]
        exact HSI.out.1 hq
      subst hF
      clear hq
      obtain ⟨k0, k1, k2, k3⟩ := HY3.out.cells
      go_wp2_with fail
      refine bodyPost_ret (res_bk (g := w.heap.size) rfl rfl (HZ3.out.put 2 t (.slice none 0 0) (x : Int)) ⟨_, _, _, rfl⟩) rfl ?_
      exact ⟨2, t, none, 0, 0, (x : Int), rfl, fun _ => ⟨rfl, rfl⟩, (((HB3.out.setCell (Nat.le_refl _) _).setCell (Nat.le_refl _) _).setCell (Nat.le_refl _) _).setCell (Nat.le_refl _) _, rfl, rfl, rfl, (((HI3.out.set HFA.out _).set HFA.out _).set HFA.out _).set HFA.out _⟩
    · have hF : F = 2 := by
        rw [HF.out, if_neg (by decide), if_pos (.inr (by rw [← HEB.out (HFE.out.trans HZF.out), HEBE.out]; exact fun h => hq (HSI.out.2 h)))]
      subst hF
      have hq1 : (S1.toList == S2.toList) = false := by rw [beq_eq_false_iff_ne]; exact hq
      clear hq
      go_wp2_with fail
      refine bodyPost_ret (res_bk (g := w.heap.size) rfl rfl (HZ3.out.put 0 0 (.slice none 0 0) 0) ⟨_, _, _, rfl⟩) rfl ?_
      exact ⟨0, 0, none, 0, 0, 0, rfl, fun _ => ⟨rfl, rfl⟩, (((HB3.out.setCell (Nat.le_refl _) _).setCell (Nat.le_refl _) _).setCell (Nat.le_refl _) _).setCell (Nat.le_refl _) _, fun _ => ⟨rfl, rfl, rfl, IArg.nil _ _⟩, fun h => absurd h (by decide)⟩
  · have hne0 : ((f : Int) != 0) = true := by rw [bne_iff_ne]; omega
    have hF : F = 2 := by
      rw [HF.out, if_neg (by decide), if_pos (.inl (by rw [HFE.out]; exact hz))]
    subst hF
    clear hz
    go_wp2_with fail
    refine bodyPost_ret (res_bk (g := w.heap.size) rfl rfl (HZ3.out.put 0 0 (.slice none 0 0) 0) ⟨_, _, _, rfl⟩) rfl ?_
    exact ⟨0, 0, none, 0, 0, 0, rfl, fun _ => ⟨rfl, rfl⟩, (((HB3.out.setCell (Nat.le_refl _) _).setCell (Nat.le_refl _) _).setCell (Nat.le_refl _) _).setCell (Nat.le_refl _) _, fun _ => ⟨rfl, rfl, rfl, IArg.nil _ _⟩, fun h => absurd h (by decide)⟩

end Go.Proofs.YtjhfjkacfnccdabDoor.Back
