/-
  A Layer as numbers: what one Take tells, and what is known behind it. Of numbers alone; no program.
-/
import Derived.WalkKit
set_option linter.unusedVariables false
namespace Go.Proofs.YtpiamlgmadnepaaGreat.LM

/-- the fault of a limit -/
def lf (m : Int) : Nat := if 0 ≤ m ∧ m ≤ 3 then 0 else 1
theorem lf_zero {m : Int} (h : lf m = 0) : 0 ≤ m ∧ m ≤ 3 := by
  unfold lf at h
  split at h
  · assumption
  · omega
theorem lf_ok {m : Int} (h0 : 0 ≤ m) (h1 : m ≤ 3) : lf m = 0 := by unfold lf; rw [if_pos ⟨h0, h1⟩]
theorem lf_bad {m : Int} (h : m < 0 ∨ 3 < m) : lf m = 1 := by unfold lf; rw [if_neg (by omega)]
/-- is a Start wanted -/
def wants (m nw : Int) (br : Bool) : Bool := decide (nw = -1) || br || decide (m < nw)
/-- does a packet go through -/
def goes (m nw l : Int) (br st : Bool) : Bool := decide (l ≤ m) && (if st then decide (nw ≤ l) || br || decide (m < nw) else decide (l = nw) && !br)
/-- the fault of an item: n its number, g whether it is gone, p its packet's fault -/
def tkf (la n : Int) (g : Bool) (p : Nat) : Nat := if n < 0 ∨ 1099511627776 < n then 1 else if n ≤ la then 6 else if g then 0 else p
/-- whether it goes through -/
def tkx (m nw la n : Int) (br g : Bool) (p : Nat) (l : Int) (st : Bool) : Bool := decide (tkf la n g p = 0) && !g && goes m nw l br st
/-- the greatest number -/
def tkL (la n : Int) (g : Bool) (p : Nat) : Int := if tkf la n g p = 0 then n else la
/-- the layer -/
def tkN (m nw la n : Int) (br g : Bool) (p : Nat) (l : Int) (st : Bool) : Int := if tkx m nw la n br g p l st && st then l else nw
/-- is it broken -/
def tkB (m nw la n : Int) (br g : Bool) (p : Nat) (l : Int) (st : Bool) : Bool := if decide (tkf la n g p = 0) && g then decide (nw ≠ -1) else if tkx m nw la n br g p l st && st then false else br

/-- what a Layer may be -/
structure Inv (m nw la : Int) (br : Bool) : Prop where
  m0 : 0 ≤ m
  m1 : m ≤ 3
  n0 : -1 ≤ nw
  n1 : nw ≤ 3
  l0 : -1 ≤ la
  l1 : la ≤ 1099511627776
  bk : nw = -1 → br = false
theorem inv_start {m : Int} (h0 : 0 ≤ m) (h1 : m ≤ 3) : Inv m (-1) (-1) false := ⟨h0, h1, by omega, by omega, by omega, by omega, fun _ => rfl⟩
theorem Inv.limit {m nw la m' : Int} {br : Bool} (h : Inv m nw la br) (h0 : 0 ≤ m') (h1 : m' ≤ 3) : Inv m' nw la br := ⟨h0, h1, h.n0, h.n1, h.l0, h.l1, h.bk⟩
theorem tkf_zero {la n : Int} {g : Bool} {p : Nat} (h : tkf la n g p = 0) : 0 ≤ n ∧ n ≤ 1099511627776 ∧ la < n ∧ (g = false → p = 0) := by
  unfold tkf at h
  split at h
  · omega
  · split at h
    · omega
    · refine ⟨by omega, by omega, by omega, fun hg => ?_⟩
      rw [hg] at h
      simpa using h
theorem tkf_range {la n : Int} {g : Bool} {p : Nat} (h : n < 0 ∨ 1099511627776 < n) : tkf la n g p = 1 := by unfold tkf; rw [if_pos h]
theorem tkf_state {la n : Int} {g : Bool} {p : Nat} (h0 : 0 ≤ n) (h1 : n ≤ 1099511627776) (h : n ≤ la) : tkf la n g p = 6 := by unfold tkf; rw [if_neg (by omega), if_pos h]
theorem tkf_gone {la n : Int} {p : Nat} (h0 : 0 ≤ n) (h1 : n ≤ 1099511627776) (h : ¬ n ≤ la) : tkf la n true p = 0 := by unfold tkf; rw [if_neg (by omega), if_neg h]; rfl
theorem tkf_pack {la n : Int} {p : Nat} (h0 : 0 ≤ n) (h1 : n ≤ 1099511627776) (h : ¬ n ≤ la) : tkf la n false p = p := by unfold tkf; rw [if_neg (by omega), if_neg h]; rfl
theorem tkf_le {la n : Int} {g : Bool} {p : Nat} (h : p ≤ 100) : tkf la n g p ≤ 100 := by
  unfold tkf
  split
  · omega
  · split
    · omega
    · split <;> omega
/-- of a fault nothing changes -/
theorem tk_bad {m nw la n : Int} {br g : Bool} {p : Nat} {l : Int} {st : Bool} (h : tkf la n g p ≠ 0) : tkx m nw la n br g p l st = false ∧ tkL la n g p = la ∧ tkN m nw la n br g p l st = nw ∧ tkB m nw la n br g p l st = br := by
  simp [tkx, tkL, tkN, tkB, h]
theorem tk_gone {m nw la n : Int} {br : Bool} {p : Nat} {l : Int} {st : Bool} (h : tkf la n true p = 0) : tkx m nw la n br true p l st = false ∧ tkL la n true p = n ∧ tkN m nw la n br true p l st = nw ∧ tkB m nw la n br true p l st = decide (nw ≠ -1) := by
  simp [tkx, tkL, tkN, tkB, h]
theorem tk_pack {m nw la n : Int} {br : Bool} {p : Nat} {l : Int} {st : Bool} (h : tkf la n false p = 0) : tkx m nw la n br false p l st = goes m nw l br st ∧ tkL la n false p = n ∧ tkN m nw la n br false p l st = (if goes m nw l br st && st then l else nw) ∧ tkB m nw la n br false p l st = (if goes m nw l br st && st then false else br) := by
  simp [tkx, tkL, tkN, tkB, h]
theorem inv_take {m nw la n : Int} {br g : Bool} {p : Nat} {l : Int} {st : Bool} (h : Inv m nw la br) (hl : p = 0 → 0 ≤ l ∧ l ≤ 3) : Inv m (tkN m nw la n br g p l st) (tkL la n g p) (tkB m nw la n br g p l st) := by
  by_cases hf : tkf la n g p = 0
  · obtain ⟨k0, k1, k2, k3⟩ := tkf_zero hf
    cases g with
    | true =>
      obtain ⟨_, e1, e2, e3⟩ := tk_gone (m := m) (nw := nw) (br := br) (l := l) (st := st) hf
      rw [e1, e2, e3]
      exact ⟨h.m0, h.m1, h.n0, h.n1, by omega, by omega, fun e => by simp [e]⟩
    | false =>
      obtain ⟨_, e1, e2, e3⟩ := tk_pack (m := m) (nw := nw) (br := br) (l := l) (st := st) hf
      rw [e1, e2, e3]
      obtain ⟨q0, q1⟩ := hl (k3 rfl)
      cases hx : goes m nw l br st && st with
      | true => exact ⟨h.m0, h.m1, by simp; omega, by simpa using q1, by omega, by omega, fun e => rfl⟩
      | false => exact ⟨h.m0, h.m1, by simpa using h.n0, by simpa using h.n1, by omega, by omega, fun e => by simpa using h.bk (by simpa using e)⟩
  · obtain ⟨_, e1, e2, e3⟩ := tk_bad (m := m) (nw := nw) (br := br) (l := l) (st := st) hf
    rw [e1, e2, e3]
    exact h
/-- what goes through: no start is wanted behind it -/
theorem goes_then {m nw l : Int} {br st : Bool} (h : goes m nw l br st = true) (hl : 0 ≤ l) : l ≤ m ∧ wants m (if goes m nw l br st && st then l else nw) (if goes m nw l br st && st then false else br) = false ∧ (if goes m nw l br st && st then l else nw) = l ∧ (st = false → l = nw ∧ br = false) := by
  unfold goes at h ⊢
  cases st with
  | true =>
    simp only [Bool.and_eq_true, decide_eq_true_eq] at h
    obtain ⟨h1, h2⟩ := h
    refine ⟨h1, ?_, ?_, fun e => by cases e⟩
    · simp only [h1, decide_true, Bool.true_and, if_true] at h2 ⊢
      rw [h2]
      simp [wants]
      omega
    · simp only [h1, decide_true, Bool.true_and, if_true] at h2 ⊢
      rw [h2]
      rfl
  | false =>
    simp only [Bool.and_eq_true, decide_eq_true_eq, Bool.false_eq_true, if_false, Bool.not_eq_true'] at h
    obtain ⟨h1, h2, h3⟩ := h
    subst h2
    refine ⟨h1, ?_, ?_, fun _ => ⟨rfl, h3⟩⟩
    · simp [wants, h3]
      omega
    · simp
end Go.Proofs.YtpiamlgmadnepaaGreat.LM

