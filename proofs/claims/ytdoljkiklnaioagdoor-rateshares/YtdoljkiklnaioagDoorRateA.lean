/-
  What New, Report and Rate of package rate return, and what they leave in memory. Report's and Rate's condition: the Guess is such as it may be.
-/
import Derived.Test.YtdoljkiklnaioagDoorRateI
namespace Go.Proofs.YtdoljkiklnaioagDoor.Rate
open Go.ChangeShapes Go.WideShapes Go.ChangeAt Go.RowKit Go.Proofs.YtdoljkiklnaioagDoor.Mem Go.Proofs.YtdoljkiklnaioagDoor.RT
set_option linter.unusedVariables false

/-- a Guess in memory -/
def GAt (w : World) (b : Nat) (r lo hi : Int) : Prop := w.heap[b]? = some (.cells #[.int .i64 r, .int .i64 lo, .int .i64 hi] 97 (0, 0))
theorem GAt.cells {w : World} {b : Nat} {r lo hi : Int} (h : GAt w b r lo hi) : w.cell? ⟨b, 0, none⟩ = some (.int .i64 r) ∧ w.cell? ⟨b, 1, none⟩ = some (.int .i64 lo) ∧ w.cell? ⟨b, 2, none⟩ = some (.int .i64 hi) := by
  simp only [GAt] at h
  refine ⟨?_, ?_, ?_⟩ <;> simp [World.cell?, h]
theorem GAt.free {w : World} {b : Nat} {r lo hi : Int} (h : GAt w b r lo hi) (j : Nat) : w.frozen? ⟨b, j, none⟩ = false := by
  simp only [GAt] at h
  simp [World.frozen?, h]
theorem GAt.lt {w : World} {b : Nat} {r lo hi : Int} (h : GAt w b r lo hi) : b < w.heap.size := lt_of_block h
theorem GAt.only {w w' : World} {b : Nat} {r lo hi : Int} {bs : List Nat} (h : GAt w b r lo hi) (ho : Only bs w w') (hb : b ∉ bs) : GAt w' b r lo hi := ho.block h hb
theorem GAt.below {w w' : World} {b : Nat} {r lo hi : Int} (h : GAt w b r lo hi) (hb : Below w.heap.size w w') : GAt w' b r lo hi := h.only (Only.of_below hb []) (by simp)
theorem GAt.set {w : World} {b : Nat} {r lo hi : Int} (h : GAt w b r lo hi) (x : Int) : GAt (w.setCell ⟨b, 0, none⟩ (.int .i64 x)) b x lo hi := heap_setCell_same w b 0 _ _ _ h

/-- what New returns -/
def NPost (w : World) (r lo hi : Int) (e : Ending) (w' : World) : Prop :=
  (nf r lo hi = 0 ∧ ∃ b, e = .returned (.tuple #[.pointer (some ⟨b, 0, none⟩), .nilIface]) ∧ w.heap.size ≤ b ∧ GAt w' b r lo hi ∧ Below w.heap.size w w') ∨
  (nf r lo hi ≠ 0 ∧ e = .returned (.tuple #[.pointer none, errv (nf r lo hi)]) ∧ w' = w)
theorem npost_one {w : World} {r lo hi : Int} (h : r < 1 ∨ 1000000 < r ∨ lo < 1 ∨ 1000000 < lo ∨ hi < 1 ∨ 1000000 < hi) : NPost w r lo hi (.returned (.tuple #[.pointer none, .iface 67 (.int .i64 1)])) w := by
  have e : nf r lo hi = 1 := by unfold nf; rw [if_pos h]
  exact .inr ⟨by omega, by rw [e]; rfl, rfl⟩
theorem npost_three {w : World} {r lo hi : Int} (h : ¬ (r < 1 ∨ 1000000 < r ∨ lo < 1 ∨ 1000000 < lo ∨ hi < 1 ∨ 1000000 < hi)) (k : r < lo ∨ hi < r) : NPost w r lo hi (.returned (.tuple #[.pointer none, .iface 67 (.int .i64 3)])) w := by
  have e : nf r lo hi = 3 := by unfold nf; rw [if_neg h, if_pos k]
  exact .inr ⟨by omega, by rw [e]; rfl, rfl⟩
theorem npost_zero {w w' : World} {r lo hi : Int} {b : Nat} (h : ¬ (r < 1 ∨ 1000000 < r ∨ lo < 1 ∨ 1000000 < lo ∨ hi < 1 ∨ 1000000 < hi)) (k : ¬ (r < lo ∨ hi < r)) (hb : w.heap.size ≤ b) (hg : GAt w' b r lo hi) (hw : Below w.heap.size w w') : NPost w r lo hi (.returned (.tuple #[.pointer (some ⟨b, 0, none⟩), .nilIface])) w' := by
  have e : nf r lo hi = 0 := by unfold nf; rw [if_neg h, if_neg k]
  exact .inl ⟨e, b, rfl, hb, hg, hw⟩
/-- the j-th of three -/
def el (r lo hi : Int) (j : Nat) : Int := if j = 0 then r else if j = 1 then lo else hi
/-- the first j of three are rates -/
def First (r lo hi : Int) (j : Nat) : Prop := ∀ i, i < j → 1 ≤ el r lo hi i ∧ el r lo hi i ≤ 1000000
theorem First.all {r lo hi : Int} (h : First r lo hi 3) : ¬ (r < 1 ∨ 1000000 < r ∨ lo < 1 ∨ 1000000 < lo ∨ hi < 1 ∨ 1000000 < hi) := by
  have a := h 0 (by omega)
  have b := h 1 (by omega)
  have c := h 2 (by omega)
  simp only [el] at a b c
  simp at a b c
  omega
theorem First.next {r lo hi : Int} {j : Nat} (h : First r lo hi j) (a : 1 ≤ el r lo hi j) (b : el r lo hi j ≤ 1000000) : First r lo hi (j + 1) := by
  intro i hi
  rcases Nat.lt_or_ge i j with p | p
  · exact h i p
  · have : i = j := by omega
    rw [this]
    exact ⟨a, b⟩
set_option maxHeartbeats 2000000 in
set_option maxRecDepth 100000 in
theorem new_calls (r lo hi : Int) (w : World) : Calls Tryd.prog 26 #[.int .i64 r, .int .i64 lo, .int .i64 hi] w (NPost w r lo hi) := by
  have ix0 : ∀ w, (Instr.index 95 (.agg #[.int .i64 r, .int .i64 lo, .int .i64 hi]) (.int .i64 0)).run Tryd.prog w = .ok (.int .i64 r) w := fun _ => by kernel_rfl
  have ix1 : ∀ w, (Instr.index 95 (.agg #[.int .i64 r, .int .i64 lo, .int .i64 hi]) (.int .i64 1)).run Tryd.prog w = .ok (.int .i64 lo) w := fun _ => by kernel_rfl
  have ix2 : ∀ w, (Instr.index 95 (.agg #[.int .i64 r, .int .i64 lo, .int .i64 hi]) (.int .i64 2)).run Tryd.prog w = .ok (.int .i64 hi) w := fun _ => by kernel_rfl
  go_enter Tryd.func26, Tryd.ntmps26
  go_wp2_with fail
  go_loopg [14] 3 (fun g x wr => ∃ j : Nat, j + g = 3 ∧ x = .int .i64 (j : Int) ∧ Hid (First r lo hi j) ∧ w = wr)
  case atStart => exact ⟨0, by omega, rfl, fun i hi => absurd hi (by omega), rfl⟩
  case round =>
    obtain ⟨j, hj, rfl, HF, rfl⟩ := hrel
    rcases (show j = 0 ∨ j = 1 ∨ j = 2 ∨ j = 3 by omega) with rfl | rfl | rfl | rfl
    · by_cases p : r < 1
      · have d : decide (r < 1) = true := by simpa using p
        go_wp2_with fail
        go_ret2
        exact npost_one (by omega)
      have d : decide (r < 1) = false := by simpa using p
      by_cases q : 1000000 < r
      · have d1 : decide (1000000 < r) = true := by simpa using q
        go_wp2_with fail
        go_ret2
        exact npost_one (by omega)
      have d1 : decide (1000000 < r) = false := by simpa using q
      have HN : Hid (First r lo hi 1) := HF.out.next (by show 1 ≤ r; omega) (by show r ≤ 1000000; omega)
      go_wp2_with fail
      go_roundg 2
      case measure => omega
      case rel => exact ⟨1, by omega, rfl, HN, rfl⟩
    · by_cases p : lo < 1
      · have d : decide (lo < 1) = true := by simpa using p
        go_wp2_with fail
        go_ret2
        exact npost_one (by omega)
      have d : decide (lo < 1) = false := by simpa using p
      by_cases q : 1000000 < lo
      · have d1 : decide (1000000 < lo) = true := by simpa using q
        go_wp2_with fail
        go_ret2
        exact npost_one (by omega)
      have d1 : decide (1000000 < lo) = false := by simpa using q
      have HN : Hid (First r lo hi 2) := HF.out.next (by show 1 ≤ lo; omega) (by show lo ≤ 1000000; omega)
      go_wp2_with fail
      go_roundg 1
      case measure => omega
      case rel => exact ⟨2, by omega, rfl, HN, rfl⟩
    · by_cases p : hi < 1
      · have d : decide (hi < 1) = true := by simpa using p
        go_wp2_with fail
        go_ret2
        exact npost_one (by omega)
      have d : decide (hi < 1) = false := by simpa using p
      by_cases q : 1000000 < hi
      · have d1 : decide (1000000 < hi) = true := by simpa using q
        go_wp2_with fail
        go_ret2
        exact npost_one (by omega)
      have d1 : decide (1000000 < hi) = false := by simpa using q
      have HN : Hid (First r lo hi 3) := HF.out.next (by show 1 ≤ hi; omega) (by show hi ≤ 1000000; omega)
      go_wp2_with fail
      go_roundg 0
      case measure => omega
      case rel => exact ⟨3, by omega, rfl, HN, rfl⟩
    · by_cases p : r < lo
      · have d : decide (r < lo) = true := by simpa using p
        go_wp2_with fail
        go_ret2
        exact npost_three HF.out.all (by omega)
      have d : decide (r < lo) = false := by simpa using p
      by_cases q : hi < r
      · have d1 : decide (hi < r) = true := by simpa using q
        go_wp2_with fail
        go_ret2
        exact npost_three HF.out.all (by omega)
      have d1 : decide (hi < r) = false := by simpa using q
      go_wp2_with fail
      go_ret2
      exact npost_zero HF.out.all (by omega) (Nat.le_refl _) (heap_alloc_new w _) ((Below.refl _ _).alloc (Nat.le_refl _) _)
set_option maxHeartbeats 2000000 in
set_option maxRecDepth 100000 in
theorem report_one (b : Nat) (r lo hi lost all : Int) (w : World) (h : pf lost all ≠ 0) :
    Calls Tryd.prog 27 #[.pointer (some ⟨b, 0, none⟩), .int .i64 lost, .int .i64 all] w fun e w' => e = .returned (.tuple #[.int .i64 0, .iface 67 (.int .i64 1)]) ∧ w' = w := by
  have h' : all < 1 ∨ 1000000 < all ∨ lost < 0 ∨ all < lost := Decidable.byContradiction fun q => h (by unfold pf; rw [if_neg q])
  clear h
  by_cases p0 : all < 1
  · have d0 : decide (all < 1) = true := by simpa using p0
    clear h'
    go_enter Tryd.func27, Tryd.ntmps27
    go_wp2_with fail
    go_ret2
    exact ⟨rfl, rfl⟩
  have d0 : decide (all < 1) = false := by simpa using p0
  by_cases p1 : 1000000 < all
  · have d1 : decide (1000000 < all) = true := by simpa using p1
    clear h'
    go_enter Tryd.func27, Tryd.ntmps27
    go_wp2_with fail
    go_ret2
    exact ⟨rfl, rfl⟩
  have d1 : decide (1000000 < all) = false := by simpa using p1
  by_cases p2 : lost < 0
  · have d2 : decide (lost < 0) = true := by simpa using p2
    clear h'
    go_enter Tryd.func27, Tryd.ntmps27
    go_wp2_with fail
    go_ret2
    exact ⟨rfl, rfl⟩
  have d2 : decide (lost < 0) = false := by simpa using p2
  have p3 : all < lost := by omega
  have d3 : decide (all < lost) = true := by simpa using p3
  clear h'
  go_enter Tryd.func27, Tryd.ntmps27
  go_wp2_with fail
  go_ret2
  exact ⟨rfl, rfl⟩
set_option maxHeartbeats 2000000 in
set_option maxRecDepth 100000 in
theorem report_ok (b : Nat) (r lo hi lost all : Int) (w : World) (hg : GAt w b r lo hi) (hI : Inv r lo hi) (h : pf lost all = 0) :
    Calls Tryd.prog 27 #[.pointer (some ⟨b, 0, none⟩), .int .i64 lost, .int .i64 all] w fun e w' => e = .returned (.tuple #[.int .i64 (rp r lo hi lost all), .nilIface]) ∧ GAt w' b (rp r lo hi lost all) lo hi ∧ Only [b] w w' := by
  obtain ⟨p0, p1, p2, p3⟩ := pf_zero h
  obtain ⟨i0, i1, i2, i3⟩ := hI
  obtain ⟨c0, c1, c2⟩ := hg.cells
  have f0 := hg.free 0
  have HG := hidden hg
  clear h hg
  have d0 : decide (all < 1) = false := by simpa using (show ¬ all < 1 by omega)
  have d1 : decide (1000000 < all) = false := by simpa using (show ¬ 1000000 < all by omega)
  have d2 : decide (lost < 0) = false := by simpa using (show ¬ lost < 0 by omega)
  have d3 : decide (all < lost) = false := by simpa using (show ¬ all < lost by omega)
  by_cases q : all < lost * 10
  · have d4 : decide (all < lost * 10) = true := by simpa using q
    have m0 : 0 ≤ r * lost := Int.mul_nonneg (by omega) p2
    have m1 : r * lost ≤ 1000000 * 1000000 := Int.mul_le_mul (by omega) (by omega) p2 (by omega)
    have m2 : 0 ≤ r * lost / (2 * all) := Int.ediv_nonneg m0 (by omega)
    have m3 : r * lost / (2 * all) ≤ r * lost := Int.ediv_le_self _ m0
    have HR : Hid ((if r - r * lost / (2 * all) < lo then lo else r - r * lost / (2 * all)) = rp r lo hi lost all) := by
      unfold Hid rp cl rw'
      rw [if_pos q, if_neg (show ¬ hi < if r - r * lost / (2 * all) < lo then lo else r - r * lost / (2 * all) by split <;> omega)]
    generalize rp r lo hi lost all = z at *
    go_enter Tryd.func27, Tryd.ntmps27
    go_wp2_with fail
    go_region
    obtain ⟨w1, hw1⟩ : ∃ w1, (w.setCell ⟨b, 0, none⟩ (.int .i64 (if r - r * lost / (2 * all) < lo then lo else r - r * lost / (2 * all)))).drew = w1 := ⟨_, rfl⟩
    have HG1 : Hid (GAt w1 b z lo hi) := by
      rw [← hw1, HR.out]
      exact (HG.out.set z).below ((Below.refl _ _).drew)
    have HO1 : Hid (Only [b] w w1) := by
      rw [← hw1]
      exact ((Only.refl [b] w).setCell (by simp) _).drew
    rw [hw1]
    clear hw1 HG HR c0 c1 c2
    obtain ⟨c0, c1, c2⟩ := HG1.out.cells
    go_wp2_with fail
    all_goals (go_ret2; exact ⟨rfl, HG1.out, HO1.out⟩)
  have d4 : decide (all < lost * 10) = false := by simpa using q
  by_cases q1 : lost * 50 < all
  · have d5 : decide (lost * 50 < all) = true := by simpa using q1
    have HR : Hid ((if hi < r + (r / 20 + 1) then hi else r + (r / 20 + 1)) = rp r lo hi lost all) := by
      unfold Hid rp cl rw'
      rw [if_neg q, if_pos q1, if_neg (show ¬ r + (r / 20 + 1) < lo by omega)]
    generalize rp r lo hi lost all = z at *
    go_enter Tryd.func27, Tryd.ntmps27
    go_wp2_with fail
    go_region
    obtain ⟨w1, hw1⟩ : ∃ w1, (w.setCell ⟨b, 0, none⟩ (.int .i64 (if hi < r + (r / 20 + 1) then hi else r + (r / 20 + 1)))).drew = w1 := ⟨_, rfl⟩
    have HG1 : Hid (GAt w1 b z lo hi) := by
      rw [← hw1, HR.out]
      exact (HG.out.set z).below ((Below.refl _ _).drew)
    have HO1 : Hid (Only [b] w w1) := by
      rw [← hw1]
      exact ((Only.refl [b] w).setCell (by simp) _).drew
    rw [hw1]
    clear hw1 HG HR c0 c1 c2
    obtain ⟨c0, c1, c2⟩ := HG1.out.cells
    go_wp2_with fail
    all_goals (go_ret2; exact ⟨rfl, HG1.out, HO1.out⟩)
  have d5 : decide (lost * 50 < all) = false := by simpa using q1
  have HR : Hid (r = rp r lo hi lost all) := by
    unfold Hid rp cl rw'
    rw [if_neg q, if_neg q1, if_neg (show ¬ r < lo by omega), if_neg (show ¬ hi < r by omega)]
  generalize rp r lo hi lost all = z at *
  go_enter Tryd.func27, Tryd.ntmps27
  go_wp2_with fail
  go_region
  obtain ⟨w1, hw1⟩ : ∃ w1, (w.setCell ⟨b, 0, none⟩ (.int .i64 (r))).drew = w1 := ⟨_, rfl⟩
  have HG1 : Hid (GAt w1 b z lo hi) := by
    rw [← hw1, HR.out]
    exact (HG.out.set z).below ((Below.refl _ _).drew)
  have HO1 : Hid (Only [b] w w1) := by
    rw [← hw1]
    exact ((Only.refl [b] w).setCell (by simp) _).drew
  rw [hw1]
  clear hw1 HG HR c0 c1 c2
  obtain ⟨c0, c1, c2⟩ := HG1.out.cells
  go_wp2_with fail
  all_goals (go_ret2; exact ⟨rfl, HG1.out, HO1.out⟩)
theorem rate_calls (b : Nat) (r lo hi : Int) (w : World) (h : GAt w b r lo hi) :
    Calls Tryd.prog 28 #[.pointer (some ⟨b, 0, none⟩)] w fun e w' => e = .returned (.int .i64 r) ∧ w' = w := by
  obtain ⟨c0, c1, c2⟩ := h.cells
  clear h c1 c2
  go_enter Tryd.func28, Tryd.ntmps28
  go_wp2_with fail
  go_ret
  exact ⟨rfl, rfl⟩
end Go.Proofs.YtdoljkiklnaioagDoor.Rate
