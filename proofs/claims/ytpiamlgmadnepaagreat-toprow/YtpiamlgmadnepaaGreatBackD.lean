/-
  What the inner functions isPair and appendNumbers of package back return, and what the library's ContainsFunc returns of pairs. They change nothing that was there.
-/
import Derived.Test.YtpiamlgmadnepaaGreatBackC
namespace Go.Proofs.YtpiamlgmadnepaaGreat.Back
open Go.ChangeShapes Go.WideShapes Go.ChangeAt Go.RowKit Go.Sort Go.Lib Go.Proofs.YtpiamlgmadnepaaGreat.BM Go.Proofs.YtpiamlgmadnepaaGreat.Mem
set_option linter.unusedVariables false

theorem bitLen_le : ∀ (k x : Nat), x < 2 ^ 64 → (Lib.bitLen x ≤ k ↔ x < 2 ^ k)
  | 0, x, hx => by
    by_cases h0 : x = 0
    · subst h0; simp [Lib.bitLen, Lib.bitLenAux]
    · rw [Lib.bitLen_half x h0 hx]; simp; omega
  | k + 1, x, hx => by
    by_cases h0 : x = 0
    · subst h0
      have : Lib.bitLen 0 = 0 := by decide
      rw [this]
      simp [Nat.pow_pos]
    · have := bitLen_le k (x / 2) (by omega)
      rw [Lib.bitLen_half x h0 hx, Nat.pow_succ]
      omega
theorem bitLen_bits {m : Nat} (hm : m < 65536) (c : Int) (hc : c ≤ 65535) : c + (Lib.bitLen m : Int) ≤ 65535 ↔ ∀ i : Nat, m.testBit i = true → c + (i : Int) + 1 ≤ 65535 := by
  have hx : m < 2 ^ 64 := by omega
  constructor
  · intro h i hi
    have h1 := Nat.ge_two_pow_of_testBit hi
    have h2 := bitLen_le i m hx
    omega
  · intro h
    rcases Nat.eq_zero_or_pos (Lib.bitLen m) with h0 | h0
    · rw [h0]; simpa using hc
    · have h1 := (bitLen_le (Lib.bitLen m) m hx).1 (Nat.le_refl _)
      have h2 := bitLen_le (Lib.bitLen m - 1) m hx
      have hb : m.testBit (Lib.bitLen m - 1) = true := by
        by_cases hb : m.testBit (Lib.bitLen m - 1) = true
        · exact hb
        · have : m < 2 ^ (Lib.bitLen m - 1) := by
            apply Nat.lt_pow_two_of_testBit
            intro i hi
            by_cases e : i = Lib.bitLen m - 1
            · subst e; simpa using hb
            · exact Nat.testBit_lt_two_pow (Nat.lt_of_lt_of_le h1 (Nat.pow_le_pow_right (by decide) (by omega)))
          have := h2.2 this
          omega
      have := h _ hb
      omega
/-- may a pair be -/
def isP (p : Int × Int) : Bool := inR p.1 && inR p.2 && decide (p.1 + (Lib.bitLen p.2.toNat : Int) ≤ 65535)
theorem box2 (w : World) (x y : Value) (T : TypeId) : (w.alloc (.cells #[x, y] T)).cell? ⟨w.heap.size, 0, none⟩ = some x ∧ (w.alloc (.cells #[x, y] T)).cell? ⟨w.heap.size, 1, none⟩ = some y := by
  constructor <;> rw [World.cell?_alloc_mark] <;> rfl
set_option maxHeartbeats 1000000 in
set_option maxRecDepth 100000 in
theorem isPair_calls (b m : Int) (w : World) : Calls Tryz.prog 210 #[.agg #[.int .i64 b, .int .i64 m]] w fun e w' => e = .returned (.bool (isP (b, m))) ∧ Below w.heap.size w w' := by
  have C1 := fun w => within_calls b 65535 w
  have C2 := fun w => within_calls m 65535 w
  have e1 : decide (0 ≤ b ∧ b ≤ 65535) = inR b := rfl
  have e2 : decide (0 ≤ m ∧ m ≤ 65535) = inR m := rfl
  rw [e1] at C1
  rw [e2] at C2
  have H1 := hidden C1
  have H2 := hidden C2
  have HE : Hid (isP (b, m) = (inR b && inR m && decide (b + (Lib.bitLen m.toNat : Int) ≤ 65535))) := rfl
  have HI1 : Hid (inR b = true → 0 ≤ b ∧ b ≤ 65535) := fun h => by simpa [inR] using h
  have HI2 : Hid (inR m = true → 0 ≤ m ∧ m ≤ 65535) := fun h => by simpa [inR] using h
  have hB : Below w.heap.size w (w.alloc (.cells #[.int .i64 b, .int .i64 m] 297)) := (Below.refl _ _).alloc (Nat.le_refl _) _
  have HB := hidden hB
  clear C1 C2 e1 e2 hB
  generalize isP (b, m) = r at *
  generalize inR b = b1 at *
  generalize inR m = b2 at *
  cases b1 with
  | false =>
    have hr : r = false := by simpa using HE.out
    subst hr
    go_enter Tryz.func210, Tryz.ntmps210
    go_wp2_with fail
    refine (H1.out _).mono ?_
    rintro e w ⟨rfl, rfl⟩
    go_wp2_with fail
    go_ret
    exact ⟨rfl, HB.out⟩
  | true =>
  cases b2 with
  | false =>
    have hr : r = false := by simpa using HE.out
    subst hr
    go_enter Tryz.func210, Tryz.ntmps210
    go_wp2_with fail
    refine (H1.out _).mono ?_
    rintro e w ⟨rfl, rfl⟩
    go_wp2_with fail
    refine (H2.out _).mono ?_
    rintro e w ⟨rfl, rfl⟩
    go_wp2_with fail
    go_ret
    exact ⟨rfl, HB.out⟩
  | true =>
    obtain ⟨b0, b1⟩ := HI1.out rfl
    obtain ⟨m0, m1⟩ := HI2.out rfl
    have hr : r = decide (b + (Lib.bitLen m.toNat : Int) ≤ 65535) := by simpa using HE.out
    have HL : Hid (∀ w, Calls Tryz.prog 107 #[.int .u64 m] w fun e w' => e = .returned (.int .i64 (Lib.bitLen m.toNat)) ∧ w' = w) := fun w => Tryz.bits_Len m w m0 (by omega)
    have hl16 : Lib.bitLen m.toNat ≤ 16 := (bitLen_le 16 m.toNat (by omega)).2 (by omega)
    clear HE
    generalize Lib.bitLen m.toNat = bl at *
    subst hr
    go_enter Tryz.func210, Tryz.ntmps210
    go_wp2_with fail
    refine (H1.out _).mono ?_
    rintro e w ⟨rfl, rfl⟩
    go_wp2_with fail
    refine (H2.out _).mono ?_
    rintro e w ⟨rfl, rfl⟩
    go_wp2_with fail
    go_quiet ((go_at_call 107; exact Calls.quiet_of_same (HL.out _)))
    go_wp2_with fail
    go_ret
    exact ⟨rfl, below_drewN' HB.out _⟩

theorem wrong_calls (b m : Int) (w : World) : Calls Tryz.prog 209 #[.agg #[.int .i64 b, .int .i64 m]] w fun e w' => e = .returned (.bool (!isP (b, m))) ∧ Below w.heap.size w w' := by
  have C := hidden (fun w => isPair_calls b m w)
  have hb : Below w.heap.size w (w.alloc (.cells #[.int .i64 b, .int .i64 m] 297)) := (Below.refl _ _).alloc (Nat.le_refl _) _
  have HB := hidden hb
  clear hb
  generalize isP (b, m) = r at *
  go_enter Tryz.func209, Tryz.ntmps209
  go_wp2_with fail
  refine (C.out _).mono ?_
  rintro e w' ⟨rfl, hb'⟩
  go_wp2_with fail
  go_ret
  exact ⟨rfl, HB.out.trans (hb'.mono HB.out.size)⟩
theorem agg_pair : ∀ w, (isAgg 297).run Tryz.prog w = .ok true w := Tryz.isAgg297
theorem size_pair : ∀ w, (Go.sizeOf 297).run Tryz.prog w = .ok 2 w := Tryz.sizeOf297
set_option maxHeartbeats 1000000 in
set_option maxRecDepth 100000 in
theorem idxP_empty (a : Option Addr) (cap : Nat) (fv : Value) (w : World) : Calls Tryz.prog 216 #[.slice a 0 cap, fv] w fun e w' => e = .returned (.int .i64 (-1)) ∧ w' = w := by
  go_enter Tryz.func216, Tryz.ntmps216
  go_wp2_with fail
  go_loopg [5, 8] 0 (fun _ _ s8 wr => s8 = .int .i64 0 ∧ wr = w)
  case atStart => exact ⟨rfl, rfl⟩
  case round =>
    obtain ⟨rfl, rfl⟩ := hrel
    go_wp2_with fail
    go_ret
    exact ⟨rfl, rfl⟩
theorem contP_calls (a : Option Addr) (n cap : Nat) (l : List (Int × Int)) (w : World) (h : PArg w a n l) :
    Calls Tryz.prog 208 #[.slice a n cap, .func (.func 209) #[] #[]] w fun e w' => e = .returned (.bool (l.any fun p => !isP p)) ∧ Below w.heap.size w w' := by
  rcases Nat.eq_zero_or_pos n with rfl | hn
  · have : l = [] := List.eq_nil_of_length_eq_zero h.2.1
    subst this
    have HI := hidden (fun w => idxP_empty a cap (.func (.func 209) #[] #[]) w)
    clear h
    go_enter Tryz.func208, Tryz.ntmps208
    go_wp2_with fail
    refine (HI.out _).mono ?_
    rintro e w' ⟨rfl, rfl⟩
    go_wp2_with fail
    go_ret
    exact ⟨rfl, Below.refl _ _⟩
  · obtain ⟨b, o, rfl, hb, hc⟩ := h.at hn
    have hl := h.2.1
    have := AnyQ.slices_ContainsFunc (α := Int × Int) Tryz.laysPair 2 agg_pair size_pair (fun p => [.int .i64 p.1, .int .i64 p.2]) (fun _ => rfl) (fun p => !isP p) 209 #[] (enters_of Tryz.func209 (by kernel_rfl) rfl) b o n cap l w
      (fun W x hW => (wrong_calls x.1 x.2 W).mono fun e w' ⟨he, hb'⟩ => ⟨he, hW.trans (hb'.mono hW.size)⟩) (by omega) h.2.2 hb (fun j hj i v hv => by
        have hcj := hc j (by omega)
        have e : l[j]! = l.getD j (0, 0) := by rw [List.getD_eq_getElem?_getD, getElem!_pos l j hj, List.getElem?_eq_getElem hj]; rfl
        rw [e] at hv
        match i, hv with
        | 0, hv => rw [Nat.add_zero, hcj.1]; simpa using hv
        | 1, hv => rw [hcj.2]; simpa using hv
        | i + 2, hv => simp at hv)
    rw [List.take_of_length_le (by omega)] at this
    exact this
end Go.Proofs.YtpiamlgmadnepaaGreat.Back

