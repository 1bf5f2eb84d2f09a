/-
  What the inner functions mostValue, isRising, check, appendNumber and numberOf of package back return, and what they make.
-/
import Derived.Test.YtpiamlgmadnepaaGreatBackG
import Derived.Test.YtpiamlgmadnepaaGreatBackM2
namespace Go.Proofs.YtpiamlgmadnepaaGreat.Back
open Go.ChangeShapes Go.WideShapes Go.ChangeAt Go.RowKit Go.Sort Go.Lib Go.Proofs.YtpiamlgmadnepaaGreat.BM Go.Proofs.YtpiamlgmadnepaaGreat.Mem
set_option linter.unusedVariables false

theorem most_calls (k : Int) (w : World) : Calls Tryz.prog 213 #[.int .i64 k] w fun e w' => e = .returned (.int .i64 (most k)) ∧ w' = w := by
  by_cases h1 : k = 1
  · subst h1
    go_enter Tryz.func213, Tryz.ntmps213
    go_wp2_with fail
    go_ret
    exact ⟨rfl, rfl⟩
  by_cases h2 : k = 2
  · subst h2
    go_enter Tryz.func213, Tryz.ntmps213
    go_wp2_with fail
    go_ret
    exact ⟨rfl, rfl⟩
  by_cases h3 : k = 3
  · subst h3
    go_enter Tryz.func213, Tryz.ntmps213
    go_wp2_with fail
    go_ret
    exact ⟨rfl, rfl⟩
  have hm : most k = -1 := by simp [most, h1, h2, h3]
  rw [hm]
  go_enter Tryz.func213, Tryz.ntmps213
  go_wp2_with fail
  go_ret
  exact ⟨rfl, rfl⟩

theorem rises_snoc {K : List Int} {y z : Int} (h : Rises (K ++ [y])) (hz : y < z) : Rises (K ++ [y] ++ [z]) := by
  refine List.pairwise_append.2 ⟨h, List.pairwise_singleton _ _, fun a ha b hb => ?_⟩
  obtain rfl := List.mem_singleton.1 hb
  rcases List.mem_append.1 ha with ha | ha
  · have := (List.pairwise_append.1 h).2.2 a ha y (by simp); omega
  · obtain rfl := List.mem_singleton.1 ha; exact hz
theorem rises_take {L : List Int} {i : Nat} (hi : 1 ≤ i) (hl : i < L.length) (h : Rises (L.take i)) (hx : L.getD (i - 1) 0 < L.getD i 0) : Rises (L.take (i + 1)) := by
  have e1 : L.take (i + 1) = L.take i ++ [L.getD i 0] := by
    rw [List.getD_eq_getElem?_getD, List.getElem?_eq_getElem hl, Option.getD_some, List.take_append_getElem hl]
  have e2 : L.take i = L.take (i - 1) ++ [L.getD (i - 1) 0] := by
    have := List.take_append_getElem (l := L) (i := i - 1) (by omega)
    rw [show i - 1 + 1 = i by omega] at this
    rw [List.getD_eq_getElem?_getD, List.getElem?_eq_getElem (by omega), Option.getD_some, this]
  rw [e1]
  rw [e2] at h ⊢
  exact rises_snoc h hx
theorem rises_not {L : List Int} {i : Nat} (hi : 1 ≤ i) (hl : i < L.length) (hx : L.getD i 0 ≤ L.getD (i - 1) 0) : ¬ Rises L := by
  intro h
  have := List.pairwise_iff_getElem.1 h (i - 1) i (by omega) hl (by omega)
  rw [List.getD_eq_getElem?_getD, List.getD_eq_getElem?_getD, List.getElem?_eq_getElem hl, List.getElem?_eq_getElem (by omega)] at hx
  simp only [Option.getD_some] at hx
  omega

set_option maxHeartbeats 1000000 in
set_option maxRecDepth 100000 in
theorem rising_calls (a : Option Addr) (n cap : Nat) (L : List Int) (w : World) (h : IArg w a n L) :
    Calls Tryz.prog 214 #[.slice a n cap] w fun e w' => e = .returned (.bool (decide (Rises L))) ∧ Below w.heap.size w w' := by
  have hl := h.2.1
  have hn := h.2.2
  have HA := hidden h
  clear h
  have H0 : Hid (Rises (L.take 1)) := by
    match L with
    | [] => exact List.Pairwise.nil
    | x :: r => exact List.pairwise_singleton _ _
  go_enter Tryz.func214, Tryz.ntmps214
  go_wp2_with fail
  go_loopg [3] n (fun g y wr => ∃ (i : Nat), 1 ≤ i ∧ n - i ≤ g ∧ (i ≤ n ∨ i = 1) ∧ y = .int .i64 (i : Int) ∧ Hid (Below w.heap.size w wr ∧ Rises (L.take i)))
  case atStart => exact ⟨1, Nat.le_refl _, by omega, .inr rfl, rfl, Below.refl _ _, H0⟩
  case round =>
    obtain ⟨i, hi1, hig, hin, rfl, HW⟩ := hrel
    by_cases hi : i < n
    · have hiz : (i : Int) < (n : Int) := by omega
      obtain ⟨b1, o1, rfl, h1⟩ := (HA.out.below HW.out.1).at (by omega)
      have c1 := h1 i hi
      have c2 := h1 (i - 1) (by omega)
      clear h1
      have e1 : ((i : Int) - 1) = ((i - 1 : Nat) : Int) := by omega
      have HN : Hid (L.getD i 0 ≤ L.getD (i - 1) 0 → ¬ Rises L) := fun hx => rises_not hi1 (by omega) hx
      have HY : Hid (L.getD (i - 1) 0 < L.getD i 0 → Rises (L.take (i + 1))) := fun hx => rises_take hi1 (by omega) HW.out.2 hx
      generalize L.getD i 0 = x at *
      generalize L.getD (i - 1) 0 = y at *
      generalize i - 1 = j at *
      by_cases hxy : x ≤ y
      · go_wp2_with fail
        go_quiet (fail)
        go_wp2_with fail
        go_ret
        exact ⟨congrArg (fun b => Ending.returned (Value.bool b)) (decide_eq_false (HN.out hxy)).symm, below_drewN' HW.out.1 _⟩
      · go_wp2_with fail
        go_quiet (fail)
        go_wp2_with fail
        go_roundg (n - (i + 1))
        case measure => omega
        case rel => exact ⟨i + 1, by omega, by omega, by omega, by go_num, below_drewN' HW.out.1 _, HY.out (by omega)⟩
    · have hiz : ¬ (i : Int) < (n : Int) := by omega
      go_wp2_with fail
      go_ret
      have h2 := HW.out.2
      rw [List.take_of_length_le (by omega)] at h2
      exact ⟨congrArg (fun b => Ending.returned (Value.bool b)) (decide_eq_true h2).symm, HW.out.1⟩

/-- what is said back, in a block of its own -/
def BBox (w : World) (g : Nat) (k t : Int) (sv : Value) (u : Int) : Prop := w.heap[g]? = some (.cells #[.int .i64 k, .int .i64 t, sv, .int .i64 u] 242 (0, 0))
theorem BBox.new (w : World) (k t : Int) (sv : Value) (u : Int) : BBox (w.alloc (.cells #[.int .i64 k, .int .i64 t, sv, .int .i64 u] 242)) w.heap.size k t sv u := heap_alloc_new w _
theorem BBox.lt {w : World} {g : Nat} {k t : Int} {sv : Value} {u : Int} (h : BBox w g k t sv u) : g < w.heap.size := lt_of_block h
theorem BBox.below {w w' : World} {g B : Nat} {k t : Int} {sv : Value} {u : Int} (h : BBox w g k t sv u) (hb : Below B w w') (hg : g < B) : BBox w' g k t sv u := (hb.block g hg).trans h
theorem BBox.cells {w : World} {g : Nat} {k t : Int} {sv : Value} {u : Int} (h : BBox w g k t sv u) : w.cell? ⟨g, 0, none⟩ = some (.int .i64 k) ∧ w.cell? ⟨g, 1, none⟩ = some (.int .i64 t) ∧ w.cell? ⟨g, 2, none⟩ = some sv ∧ w.cell? ⟨g, 3, none⟩ = some (.int .i64 u) := by
  unfold BBox at h
  refine ⟨?_, ?_, ?_, ?_⟩ <;> simp [World.cell?, h]
theorem below_old {w w' : World} {o : Obj} (h : Below (w.alloc o).heap.size (w.alloc o) w') : Below w.heap.size w w' :=
  ((Below.refl w.heap.size w).alloc (Nat.le_refl _) o).trans (h.mono (by simp))

set_option maxHeartbeats 1000000 in
set_option maxRecDepth 100000 in
theorem check_calls (k t : Int) (a : Option Addr) (n cap : Nat) (u : Int) (L : List Int) (w : World) (h : IArg w a n L) :
    Calls Tryz.prog 203 #[.agg #[.int .i64 k, .int .i64 t, .slice a n cap, .int .i64 u]] w fun e w' => e = .returned (errv (cfault k t L u)) ∧ Below w.heap.size w w' := by
  have hl := h.2.1
  have HB : Hid (Below w.heap.size w (w.alloc (.cells #[.int .i64 k, .int .i64 t, .slice a n cap, .int .i64 u] 242))) := (Below.refl _ _).alloc (Nat.le_refl _) _
  have HBX := hidden (BBox.new w k t (.slice a n cap) u)
  have HR := hidden (fun W hb => rising_calls a n cap L W (IArg.below h hb))
  have HM := hidden (fun w => most_calls k w)
  have HW := hidden (fun w => within_calls u (most k) w)
  have hf : cfault k t L u = if decide (t < 1) || decide (8 < t) || !decide (0 ≤ u ∧ u ≤ most k) then 1 else if (decide (k = 1) == decide (n = 0)) || !decide (Rises L) then 3 else 0 := by
    unfold cfault
    rw [hl]
    simp only [Bool.or_eq_true, decide_eq_true_eq, Bool.not_eq_true', decide_eq_false_iff_not, or_assoc]
  generalize cfault k t L u = F at *
  generalize decide (0 ≤ u ∧ u ≤ most k) = bw at *
  generalize decide (Rises L) = br at *
  generalize most k = mk at *
  have HF := hidden hf
  have c1 := HBX.out.cells.2.1
  clear h hf hl
  by_cases p1 : t < 1
  · have d1 : decide (t < 1) = true := by simpa using p1
    obtain rfl : F = 1 := by rw [HF.out, d1]; rfl
    go_enter Tryz.func203, Tryz.ntmps203
    go_wp2_with fail
    go_quiet (fail)
    go_wp2_with fail
    go_ret
    exact ⟨rfl, below_drewN' HB.out _⟩
  have d1 : decide (t < 1) = false := by simpa using p1
  by_cases p2 : 8 < t
  · have d2 : decide (8 < t) = true := by simpa using p2
    obtain rfl : F = 1 := by rw [HF.out, d1, d2]; rfl
    go_enter Tryz.func203, Tryz.ntmps203
    go_wp2_with fail
    go_quiet (fail)
    go_wp2_with fail
    go_ret
    exact ⟨rfl, below_drewN' HB.out _⟩
  have d2 : decide (8 < t) = false := by simpa using p2
  cases bw with
  | false =>
    obtain rfl : F = 1 := by rw [HF.out, d1, d2]; rfl
    go_enter Tryz.func203, Tryz.ntmps203
    go_wp2_with fail
    go_quiet (first | (go_at_call 213; exact Calls.quiet_of_same (HM.out _)) | (go_at_call 212; exact Calls.quiet_of_same (HW.out _)))
    go_wp2_with fail
    go_ret
    exact ⟨rfl, below_drewN' HB.out _⟩
  | true =>
    obtain ⟨bk, hbk⟩ : ∃ b, ((k : Int) == 1) = b := ⟨_, rfl⟩
    obtain ⟨bn, hbn⟩ : ∃ b, ((n : Int) == 0) = b := ⟨_, rfl⟩
    have hF : F = if (bk == bn) || !br then 3 else 0 := by
      have e1 : decide (k = 1) = bk := by rw [← hbk]; rfl
      have e2 : decide (n = 0) = bn := by rw [← hbn, Bool.eq_iff_iff, decide_eq_true_eq, beq_iff_eq]; omega
      rw [HF.out, d1, d2, e1, e2]
      rfl
    obtain ⟨be', hbe⟩ : ∃ b, (bk == bn) = b := ⟨_, rfl⟩
    rw [hbe] at hF
    cases be' with
    | true =>
      obtain rfl : F = 3 := by rw [hF]; rfl
      clear HF hF
      go_enter Tryz.func203, Tryz.ntmps203
      go_wp2_with fail
      go_quiet (first | (go_at_call 213; exact Calls.quiet_of_same (HM.out _)) | (go_at_call 212; exact Calls.quiet_of_same (HW.out _)))
      go_wp2_with fail
      go_ret
      exact ⟨rfl, below_drewN' HB.out _⟩
    | false =>
      cases br with
      | false =>
        obtain rfl : F = 3 := by rw [hF]; rfl
        clear HF hF
        go_enter Tryz.func203, Tryz.ntmps203
        go_wp2_with fail
        go_quiet (first | (go_at_call 213; exact Calls.quiet_of_same (HM.out _)) | (go_at_call 212; exact Calls.quiet_of_same (HW.out _)))
        go_wp2_with fail
        refine (HR.out _ (below_drewN' HB.out _)).mono ?_
        rintro e w2 ⟨rfl, hb2⟩
        go_wp2_with fail
        go_ret
        exact ⟨rfl, (below_drewN' HB.out nq).trans (hb2.mono (below_drewN' HB.out nq).size)⟩
      | true =>
        obtain rfl : F = 0 := by rw [hF]; rfl
        clear HF hF
        go_enter Tryz.func203, Tryz.ntmps203
        go_wp2_with fail
        go_quiet (first | (go_at_call 213; exact Calls.quiet_of_same (HM.out _)) | (go_at_call 212; exact Calls.quiet_of_same (HW.out _)))
        go_wp2_with fail
        refine (HR.out _ (below_drewN' HB.out _)).mono ?_
        rintro e w2 ⟨rfl, hb2⟩
        go_wp2_with fail
        go_ret
        exact ⟨rfl, (below_drewN' HB.out nq).trans (hb2.mono (below_drewN' HB.out nq).size)⟩
end Go.Proofs.YtpiamlgmadnepaaGreat.Back

